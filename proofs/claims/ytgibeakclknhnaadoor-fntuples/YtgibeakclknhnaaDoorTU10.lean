/- Texts joined: RdAt, RdX, ImplCt, ImplNm, ShelfH, RdB, ImplTr, Within, ImplVo. -/
import Derived.Test.YtgibeakclknhnaaDoorTU02
import Derived.Test.YtgibeakclknhnaaDoorTU01
import Derived.Test.YtgibeakclknhnaaDoorTU03
import Derived.Test.YtgibeakclknhnaaDoorTU05
import Derived.Deep.RegionHeld3
import Derived.Deep.Cut
import Derived.Test.YtgibeakclknhnaaDoorTU08
import Derived.Test.YtgibeakclknhnaaDoorTU04
set_option maxHeartbeats 4000000
set_option maxRecDepth 100000
namespace Go.Proofs.YtgibeakclknhnaaDoor
section
open Go.ChangeShapes Go.WideShapes Go.ChangeAt Go.RowKit
structure RdAt (w : World) (R : Nat) (a : Option Addr) (n c : Nat) (l : List UInt8) (j : Nat) : Prop where
  box : Box w R #[.slice a n c, .int .i64 (j : Int)] 66
  bys : BysAt w a n l
  far : ∀ ad, a = some ad → ad.block ≠ R
  le : j ≤ n
  cap : n ≤ c
theorem BysAt.grown {w w' : World} {a : Option Addr} {n : Nat} {l : List UInt8} {R : Nat} (h : BysAt w a n l) (hg : w.grownBy w' (some R)) (hf : ∀ ad, a = some ad → ad.block ≠ R) : BysAt w' a n l := by
  obtain ⟨h1, h2, h3 | ⟨b, o, rfl, h4⟩⟩ := h
  · exact ⟨h1, h2, .inl h3⟩
  · refine ⟨h1, h2, .inr ⟨b, o, rfl, fun i x hi => ?_⟩⟩
    exact far_cell hg (h4 i x hi) (hf _ rfl)
theorem RdAt.turn {w w' : World} {R : Nat} {a : Option Addr} {n c : Nat} {l : List UInt8} {j k : Nat} (h : RdAt w R a n c l j) (hg : w.grownBy w' (some R)) (hb : Box w' R #[.slice a n c, .int .i64 (k : Int)] 66) (hk : k ≤ n) : RdAt w' R a n c l k := ⟨hb, h.bys.grown hg h.far, h.far, hk, h.cap⟩
theorem RdAt.below {w w' : World} {R : Nat} {a : Option Addr} {n c : Nat} {l : List UInt8} {j : Nat} (h : RdAt w R a n c l j) (hb : Below w.heap.size w w') : RdAt w' R a n c l j := ⟨h.box.below hb h.box.lt, h.bys.below hb (Nat.le_refl _), h.far, h.le, h.cap⟩
theorem RdAt.byte {w : World} {R : Nat} {a : Option Addr} {n c : Nat} {l : List UInt8} {j : Nat} (h : RdAt w R a n c l j) (hj : j < n) : ∃ b, l[j]? = some b := ⟨_, List.getElem?_eq_getElem (by have := h.bys.1; omega)⟩
abbrev ErrV (p : Int) : Value := .iface 47 (.agg #[.int .i64 p])
theorem esc_tail : ∀ (o s u r : List UInt8), escB o ++ u = escB s ++ 0 :: 1 :: r → ∃ s', s = o ++ s' ∧ u = escB s' ++ 0 :: 1 :: r
  | [], s, u, r, h => ⟨s, rfl, h⟩
  | d :: o, [], u, r, h => by
    exfalso
    rw [escB, escB] at h
    by_cases hd : d = 0
    · rw [if_pos hd] at h
      have h1 : (255 : UInt8) = 1 := by simpa using congrArg (fun l => l.getD 1 0) h
      exact absurd h1 (by decide)
    · rw [if_neg hd] at h
      exact hd (by simpa using congrArg (fun l => l.getD 0 9) h)
  | d :: o, c :: s, u, r, h => by
    rw [escB, escB] at h
    by_cases hd : d = 0
    · by_cases hc : c = 0
      · rw [if_pos hd, if_pos hc] at h
        have h1 : escB o ++ u = escB s ++ 0 :: 1 :: r := by simpa using h
        obtain ⟨s', h2, h3⟩ := esc_tail o s u r h1
        exact ⟨s', by rw [h2, hd, hc]; rfl, h3⟩
      · rw [if_pos hd, if_neg hc] at h
        exact absurd (by simpa using (congrArg (fun l => l.getD 0 9) h).symm) hc
    · by_cases hc : c = 0
      · rw [if_neg hd, if_pos hc] at h
        exact absurd (by simpa using congrArg (fun l => l.getD 0 9) h) hd
      · rw [if_neg hd, if_neg hc] at h
        have h1 : d = c ∧ escB o ++ u = escB s ++ 0 :: 1 :: r := by simpa using h
        obtain ⟨s', h2, h3⟩ := esc_tail o s u r h1.2
        exact ⟨s', by rw [h2, h1.1]; rfl, h3⟩
def EscT (l : List UInt8) (i j : Nat) (o : List UInt8) : Prop := l.drop i = escB o ++ l.drop j
theorem EscT.start (l : List UInt8) (i : Nat) : EscT l i i [] := rfl
theorem EscT.one {l : List UInt8} {i j : Nat} {o : List UInt8} {x : UInt8} (h : EscT l i j o) (hx : l[j]? = some x) (h0 : ¬ x = 0) : EscT l i (j + 1) (o ++ [x]) := by
  unfold EscT at h ⊢
  rw [h, dropB hx, escB_append]
  show _ = (_ ++ (if x = 0 then 0 :: 255 :: escB [] else x :: escB [])) ++ _
  rw [if_neg h0, List.append_assoc]
  rfl
theorem EscT.two {l : List UInt8} {i j : Nat} {o : List UInt8} (h : EscT l i j o) (hx : l[j]? = some 0) (hy : l[j + 1]? = some 255) : EscT l i (j + 2) (o ++ [0]) := by
  unfold EscT at h ⊢
  rw [h, dropB hx, dropB hy, escB_append]
  show _ = (_ ++ (if (0 : UInt8) = 0 then 0 :: 255 :: escB [] else 0 :: escB [])) ++ _
  rw [if_pos rfl, List.append_assoc]
  rfl
theorem EscT.done {l : List UInt8} {i j : Nat} {o : List UInt8} (h : EscT l i j o) (hx : l[j]? = some 0) (hy : l[j + 1]? = some 1) : l.drop i = (escB o ++ [0, 1]) ++ l.drop (j + 2) := by
  unfold EscT at h
  rw [h, dropB hx, dropB hy, List.append_assoc]
  rfl
theorem EscT.no {l : List UInt8} {i j : Nat} {o : List UInt8} (h : EscT l i j o) (hn : ∀ x, l[j]? = some x → x = 0 ∧ ∀ y, l[j + 1]? = some y → ¬ y = 1 ∧ ¬ y = 255) : ∀ s r, ¬ l.drop i = (escB s ++ [0, 1]) ++ r := by
  intro s r he
  unfold EscT at h
  have e : (escB s ++ [0, 1]) ++ r = escB s ++ 0 :: 1 :: r := by simp
  rw [h, e] at he
  obtain ⟨s', _, h2⟩ := esc_tail o s _ r he
  have at0 : ∀ k, l[j + k]? = (escB s' ++ 0 :: 1 :: r)[k]? := fun k => by rw [← h2, List.getElem?_drop]
  rcases s' with _ | ⟨c, s'⟩
  · have h3 : l[j]? = some 0 := by simpa [escB] using at0 0
    have h4 : l[j + 1]? = some 1 := by simpa [escB] using at0 1
    exact ((hn 0 h3).2 1 h4).1 rfl
  · by_cases hc : c = 0
    · have h3 : l[j]? = some 0 := by simpa [escB, hc] using at0 0
      have h4 : l[j + 1]? = some 255 := by simpa [escB, hc] using at0 1
      exact ((hn 0 h3).2 255 h4).2 rfl
    · have h3 : l[j]? = some c := by simpa [escB, hc] using at0 0
      exact hc (hn c h3).1
def numV (bs : List UInt8) : Int := bs.foldl (fun N b => bits .or .i64 (wrap64 (N * 256)) (b.toNat : Int)) 0
theorem numV_snoc (bs : List UInt8) (b : UInt8) : numV (bs ++ [b]) = bits .or .i64 (wrap64 (numV bs * 256)) (b.toNat : Int) := by unfold numV; rw [List.foldl_append]; rfl
theorem or_wrap (V : Nat) {b : Nat} (hb : b < 256) : bits .or .i64 (wrap64 (wrap64 (V : Int) * 256)) (b : Int) = wrap64 ((V * 256 + b : Nat) : Int) := by
  have eA : (BitVec.ofInt 64 (wrap64 (wrap64 (V : Int) * 256))).toNat = V % 72057594037927936 * 256 := by
    rw [BitVec.toNat_ofInt]
    unfold wrap64
    omega
  have eB : (BitVec.ofInt 64 (b : Int)).toNat = b := ofInt_u64 b (by omega)
  have e : (BitVec.ofInt 64 (wrap64 (wrap64 (V : Int) * 256)) ||| BitVec.ofInt 64 (b : Int)).toNat = V % 72057594037927936 * 256 + b := by
    rw [BitVec.toNat_or, eA, eB]
    exact nat_join 8 _ _ (by omega) (by omega)
  show IntKind.i64.wrap ((BitVec.ofInt 64 (wrap64 (wrap64 (V : Int) * 256)) ||| BitVec.ofInt 64 (b : Int)).toNat : Int) = _
  rw [e, IntKind.wrap_i64]
  unfold wrap64
  omega
theorem numV_beV (bs : List UInt8) : numV bs = wrap64 (beV bs : Int) := by
  suffices h : ∀ r : List UInt8, numV r.reverse = wrap64 (beV r.reverse : Int) by
    have := h bs.reverse
    rwa [List.reverse_reverse] at this
  intro r
  induction r with
  | nil => show (0 : Int) = wrap64 ((0 : Nat) : Int); unfold wrap64; omega
  | cons b r ih =>
    rw [List.reverse_cons, numV_snoc, ih, or_wrap _ b.toNat_lt, beV_snoc]
theorem beN_beV : ∀ (k : Nat) (bs : List UInt8), bs.length = k → beN k (beV bs) = bs
  | 0, bs, h => by rw [List.length_eq_zero_iff.1 h]; rfl
  | k + 1, bs, h => by
    have hne : bs ≠ [] := fun e => by rw [e] at h; cases h
    have hs := List.dropLast_concat_getLast hne
    rw [← hs, beV_snoc, beN, show (beV bs.dropLast * 256 + (bs.getLast hne).toNat) / 256 = beV bs.dropLast by have := (bs.getLast hne).toNat_lt; omega, show (beV bs.dropLast * 256 + (bs.getLast hne).toNat) % 256 = (bs.getLast hne).toNat by have := (bs.getLast hne).toNat_lt; omega, beN_beV k _ (by rw [List.length_dropLast, h]; rfl), UInt8.ofNat_toNat]
theorem beV_lt : ∀ (k : Nat) (bs : List UInt8), bs.length = k → beV bs < 256 ^ k
  | 0, bs, h => by rw [List.length_eq_zero_iff.1 h]; decide
  | k + 1, bs, h => by
    have hne : bs ≠ [] := fun e => by rw [e] at h; cases h
    have hs := List.dropLast_concat_getLast hne
    have ih := beV_lt k bs.dropLast (by rw [List.length_dropLast, h]; rfl)
    rw [← hs, beV_snoc, Nat.pow_succ]
    have := (bs.getLast hne).toNat_lt
    omega
theorem numV_one (b : UInt8) : numV [b] = (b.toNat : Int) := by
  rw [numV_beV]
  show wrap64 (((0 * 256 + b.toNat : Nat)) : Int) = _
  have := b.toNat_lt
  unfold wrap64
  omega
def VaIs (l : List UInt8) (i : Nat) (x : Va3) (next : Nat) : Prop := VaGood x.1 x.2.1 x.2.2 ∧ RdSays l i x next ∧ l.drop i = vaB x ++ l.drop next ∧ next ≤ l.length
def VaNo (l : List UInt8) (i : Nat) : Prop := ∀ y r, VaGood y.1 y.2.1 y.2.2 → ¬ l.drop i = vaB y ++ r
theorem VaNo.of {l : List UInt8} {i next : Nat} {x : Va3} (h : RdSays l i x next) (hb : ¬ VaGood x.1 x.2.1 x.2.2) : VaNo l i := fun y r hy he => hb (by rw [(h.2 y r hy he).1]; exact hy)
theorem one_len {l : List UInt8} {i : Nat} {b : UInt8} (h : l[i]? = some b) : i < l.length := (List.getElem?_eq_some_iff.1 h).1
theorem va_null {l : List UInt8} {i : Nat} (h : l[i]? = some 1) : VaIs l i (0, 0, ⟨#[]⟩) (i + 1) := by
  refine ⟨.inl ⟨rfl, rfl, rfl⟩, rd_null h, ?_, one_len h⟩
  rw [dropB h]
  rfl
theorem va_flag {l : List UInt8} {i : Nat} {b : UInt8} (h : l[i]? = some 2) (h1 : l[i + 1]? = some b) (hg : VaGood 1 (b.toNat : Int) ⟨#[]⟩) : VaIs l i (1, (b.toNat : Int), ⟨#[]⟩) (i + 2) := by
  refine ⟨hg, rd_flag h h1, ?_, one_len h1⟩
  rw [dropB h, dropB h1]
  show _ = [2, UInt8.ofNat ((b.toNat : Int)).toNat] ++ _
  rw [Int.toNat_natCast, UInt8.ofNat_toNat]
  rfl
theorem rd_int8 {l : List UInt8} {i : Nat} (h : l[i]? = some 3) : RdSays l i (2, wrap64 (numV ((l.drop (i + 1)).take 8) - 4611686018427387904), ⟨#[]⟩) (i + 9) := rd_int h fun m hm he => by
  rw [he, numV_beV, beV_be 8 m (by omega)]
  unfold wrap64
  omega
theorem va_int {l : List UInt8} {i : Nat} (h : l[i]? = some 3) (hle : i + 9 ≤ l.length) (hg : VaGood 2 (wrap64 (numV ((l.drop (i + 1)).take 8) - 4611686018427387904)) ⟨#[]⟩) : VaIs l i (2, wrap64 (numV ((l.drop (i + 1)).take 8) - 4611686018427387904), ⟨#[]⟩) (i + 9) := by
  refine ⟨hg, rd_int8 h, ?_, hle⟩
  have hl8 : ((l.drop (i + 1)).take 8).length = 8 := by rw [List.length_take, List.length_drop]; omega
  have hlt := beV_lt 8 _ hl8
  have hN : -1000000000000 ≤ wrap64 (numV ((l.drop (i + 1)).take 8) - 4611686018427387904) ∧ wrap64 (numV ((l.drop (i + 1)).take 8) - 4611686018427387904) ≤ 1000000000000 := by
    rcases hg with ⟨h1, _⟩ | ⟨h1, _⟩ | ⟨_, h1, _⟩ | ⟨h1, _⟩
    · omega
    · omega
    · exact h1
    · omega
  have hbe := beN_beV 8 _ hl8
  have e : (wrap64 (numV ((l.drop (i + 1)).take 8) - 4611686018427387904) + 4611686018427387904).toNat = beV ((l.drop (i + 1)).take 8) := by
    rw [numV_beV] at hN ⊢
    generalize beV ((l.drop (i + 1)).take 8) = q at hlt hN ⊢
    unfold wrap64 at hN ⊢
    omega
  show _ = 3 :: beN 8 _ ++ _
  rw [e, hbe, dropB h]
  show _ = 3 :: ((l.drop (i + 1)).take 8 ++ _)
  have h9 : l.drop (i + 9) = (l.drop (i + 1)).drop 8 := by rw [List.drop_drop]
  rw [h9, List.take_append_drop]
theorem va_text {l : List UInt8} {i j : Nat} {s : ByteArray} (h : l[i]? = some 4) (he : l.drop (i + 1) = (escB s.data.toList ++ [0, 1]) ++ l.drop j) (hj : i + 1 < j) (hle : j ≤ l.length) : RdSays l i (3, 0, s) j ∧ (VaGood 3 0 s → VaIs l i (3, 0, s) j) := by
  have hrd : RdSays l i (3, 0, s) j := rd_text h hj fun t r ht => by
    rw [he, show (escB s.data.toList ++ [0, 1]) ++ l.drop j = escB s.data.toList ++ 0 :: 1 :: l.drop j by simp, rdT_esc] at ht
    cases ht
    refine ⟨rfl, ?_⟩
    rw [List.length_drop]
    omega
  refine ⟨hrd, fun hg => ⟨hg, hrd, ?_, hle⟩⟩
  rw [dropB h, he]
  rfl
theorem no_text {l : List UInt8} {i : Nat} (h : l[i]? = some 4) (hn : ∀ s r, ¬ l.drop (i + 1) = (escB s ++ [0, 1]) ++ r) : VaNo l i := by
  rintro ⟨k, n, s⟩ r hy hd
  dsimp only at hy
  rcases hy with ⟨rfl, rfl, h2⟩ | ⟨rfl, h3, h2⟩ | ⟨rfl, h3, h2⟩ | ⟨rfl, rfl, h2⟩
  · exact absurd (head_eq (t := []) h hd).1 (by decide)
  · exact absurd (head_eq (t := [UInt8.ofNat n.toNat]) h hd).1 (by decide)
  · exact absurd (head_eq (t := beN 8 (n + 4611686018427387904).toNat) h hd).1 (by decide)
  · exact hn _ _ (head_eq (t := escB s.data.toList ++ [0, 1]) h hd).2
theorem no_flag {l : List UInt8} {i : Nat} (h : l[i]? = some 2) (h1 : ¬ i + 1 < l.length) : VaNo l i := by
  rintro ⟨k, n, s⟩ r hy hd
  have h2 := (rd_flag0 h h1 9).2 (k, n, s) r hy hd
  have h3 := congrArg (fun x : Va3 => x.2.1) h2.1
  have h4 := congrArg (fun x : Va3 => x.1) h2.1
  dsimp only at h3 h4 hy
  subst h3 h4
  rcases hy with ⟨h1, _⟩ | ⟨_, h1, _⟩ | ⟨h1, _⟩ | ⟨h1, _⟩ <;> omega
theorem no_int {l : List UInt8} {i : Nat} (h : l[i]? = some 3) (hs : l.length < i + 9) : VaNo l i := by
  rintro ⟨k, n, s⟩ r hy hd
  have h2 := (RdN.short 4611686018427387904 h hs).2 (k, n, s) r hy hd
  have h3 := congrArg (fun x : Va3 => x.2.1) h2.1
  have h4 := congrArg (fun x : Va3 => x.1) h2.1
  dsimp only at h3 h4 hy
  subst h3 h4
  rcases hy with ⟨h1, _⟩ | ⟨h1, _⟩ | ⟨_, h1, _⟩ | ⟨h1, _⟩ <;> omega
theorem no_none {l : List UInt8} {i : Nat} {c : UInt8} (h : l[i]? = some c) (hc : ¬ (1 ≤ c.toNat ∧ c.toNat ≤ 4)) : VaNo l i := VaNo.of (x := (7, 0, ⟨#[]⟩)) (next := i + 1) (rd_none _ h hc (Nat.lt_succ_self _)) (by rintro (⟨h1, _⟩ | ⟨h1, _⟩ | ⟨h1, _⟩ | ⟨h1, _⟩) <;> exact absurd h1 (by decide))
structure TupTo (l : List UInt8) (L : List Va3) (j : Nat) : Prop where
  rd : RdTup l L j
  good : ∀ x ∈ L, VaGood x.1 x.2.1 x.2.2
  byt : l = tupB L ++ l.drop j
  len : L.length ≤ 4
  le : j ≤ l.length
theorem TupTo.start (l : List UInt8) : TupTo l [] 0 := ⟨RdTup.start l, fun _ h => (by cases h), rfl, Nat.zero_le _, Nat.zero_le _⟩
theorem TupTo.next {l : List UInt8} {L : List Va3} {j next : Nat} {x : Va3} (h : TupTo l L j) (hj : j < l.length) (h4 : ¬ L.length = 4) (hx : VaIs l j x next) : TupTo l (L ++ [x]) next := by
  refine ⟨h.rd.next hj hx.2.1, fun y hy => ?_, ?_, ?_, hx.2.2.2⟩
  · rcases List.mem_append.1 hy with h1 | h1
    · exact h.good y h1
    · rw [List.mem_singleton.1 h1]; exact hx.1
  · rw [tupB_append, List.append_assoc]
    show l = tupB L ++ ((vaB x ++ []) ++ l.drop next)
    rw [List.append_nil, ← hx.2.2.1]
    exact h.byt
  · have := h.len
    rw [List.length_append]
    show _ + 1 ≤ 4
    omega
theorem TupTo.done {l : List UInt8} {L : List Va3} {j : Nat} (h : TupTo l L j) (hj : ¬ j < l.length) : TupIs l L := by
  refine ⟨⟨h.good, h.len⟩, ?_⟩
  have h1 := h.byt
  rw [List.drop_eq_nil_of_le (by omega), List.append_nil] at h1
  exact h1.symm
theorem TupTo.many {l : List UInt8} {L : List Va3} {j : Nat} (h : TupTo l L j) (hj : j < l.length) (h4 : L.length = 4) : ∀ M, ¬ TupIs l M := by
  intro M hM
  obtain ⟨S, hS, hle, hd⟩ := h.rd M hM
  have h1 := hM.1.2
  rw [hS, List.length_append] at h1
  have h2 : S = [] := List.length_eq_zero_iff.1 (by omega)
  have h3 : (l.drop j).length = 0 := by rw [hd, h2]; rfl
  rw [List.length_drop] at h3
  omega
theorem TupTo.no {l : List UInt8} {L : List Va3} {j : Nat} (h : TupTo l L j) (hj : j < l.length) (hn : VaNo l j) : ∀ M, ¬ TupIs l M := by
  intro M hM
  obtain ⟨S, hS, hle, hd⟩ := h.rd M hM
  rcases S with _ | ⟨y, S⟩
  · have h3 : (l.drop j).length = 0 := by rw [hd]; rfl
    rw [List.length_drop] at h3
    omega
  · exact hn y (tupB S) (hM.1.1 y (by rw [hS]; simp)) hd
theorem sub_wrap {n j : Nat} (hj : j ≤ n) (hn : n ≤ 2097152) : IntKind.i64.wrap ((n : Int) - (j : Int)) = (n : Int) - (j : Int) := by rw [IntKind.wrap_i64]; omega
theorem grownBy_setAt (w : World) (R i : Nat) (v : Value) : w.grownBy (w.setCell ⟨R, i, none⟩ v) (some R) := ⟨rfl, rfl, rfl, by simp [World.setCell], fun k _ hr => Below.heap_setCell _ _ _ _ (fun e => hr (by rw [e]))⟩
theorem grown_same (w : World) (row : Option Nat) : w.grownBy w row := ⟨rfl, rfl, rfl, Nat.le_refl _, fun _ _ _ => rfl⟩
theorem cut_short (w : World) (R : Nat) (a : Option Addr) (n c : Nat) (l : List UInt8) (j : Nat) (h : RdAt w R a n c l j) (m : Nat) (hm : n - j < m) :
    Calls Tryd.prog 68 #[.pointer (some ⟨R, 0, none⟩), .int .i64 (m : Int)] w fun e w' => e = .returned (.tuple #[.slice none 0 0, ErrV (n : Int)]) ∧ RdAt w' R a n c l j ∧ w.grownBy w' (some R) := by
  have H : Hid (RdAt w R a n c l j) := h
  obtain ⟨c0, c1, _, _⟩ := h.box.two
  obtain ⟨d0, d1, _, _⟩ := h.box.drew.two
  have hw := sub_wrap h.le h.bys.2.1
  have hd : decide ((n : Int) - (j : Int) < (m : Int)) = true := decide_eq_true (by have := h.le; omega)
  clear h
  go_enter Tryd.func68, Tryd.ntmps68
  go_upto_region 1 with (fail)
  go_region_held3 (fun w' => w'.cell? ⟨R, 0, none⟩ = some (.slice a n c) ∧ w'.cell? ⟨R, 1, none⟩ = some (.int .i64 (j : Int)))
    (first | (with_reducible exact ⟨c0, c1⟩) | go_keep)
    (fail)
  clear hw hd
  go_upto_region 2 with (fail)
  go_region_held3 (fun w' => w'.cell? ⟨R, 0, none⟩ = some (.slice a n c) ∧ w'.cell? ⟨R, 1, none⟩ = some (.int .i64 (j : Int)))
    (first | (with_reducible exact ⟨d0, d1⟩) | go_keep)
    (fail)
  go_wp2
  go_ret2
  exact ⟨rfl, H.out.turn (far_drew (far_drew (grown_same w _))) H.out.box.drew.drew H.out.le, far_drew (far_drew (grown_same w _))⟩
theorem cut_ok (w : World) (R : Nat) (b o : Nat) (n c : Nat) (l : List UInt8) (j : Nat) (h : RdAt w R (some ⟨b, o, none⟩) n c l j) (m : Nat) (hm : j + m ≤ n) (hm8 : m ≤ 8) (hm0 : 0 < m) :
    Calls Tryd.prog 68 #[.pointer (some ⟨R, 0, none⟩), .int .i64 (m : Int)] w fun e w' => e = .returned (.tuple #[.slice (some ⟨b, o + j, none⟩) m m, .nilIface]) ∧ RdAt w' R (some ⟨b, o, none⟩) n c l (j + m) ∧ w.grownBy w' (some R) := by
  have H : Hid (RdAt w R (some ⟨b, o, none⟩) n c l j) := h
  obtain ⟨c0, c1, f0, f1⟩ := h.box.two
  obtain ⟨d0, d1, g0, g1⟩ := h.box.drew.two
  have hn := h.bys.2.1
  have hcap := h.cap
  have hw := sub_wrap h.le hn
  have hd : decide ((n : Int) - (j : Int) < (m : Int)) = false := decide_eq_false (by omega)
  have hs : wrap64 ((j : Int) + (m : Int)) = (j : Int) + (m : Int) := by unfold wrap64; omega
  have hs0 : (0 : Int) ≤ (j : Int) + (m : Int) := by omega
  have hs1 : (j : Int) + (m : Int) ≤ (n : Int) := by omega
  have hcapi : (n : Int) ≤ (c : Int) := by omega
  have hji : (j : Int) ≤ (j : Int) + (m : Int) := by omega
  have hj0 : (0 : Int) ≤ (j : Int) := by omega
  have hsl : ∀ w : World, (Instr.slice 22 (.slice (some ⟨b, o, none⟩) n c) (some (.int .i64 (j : Int))) (some (.int .i64 ((j : Int) + (m : Int)))) (some (.int .i64 ((j : Int) + (m : Int))))).run Tryd.prog w = .ok (.slice (some ⟨b, o + j, none⟩) m m) w := fun w => by
    rw [run_slice_lhm w 22 (some ⟨b, o, none⟩) n c Tryd.underlying22 .i64 .i64 .i64 (j : Int) ((j : Int) + (m : Int)) ((j : Int) + (m : Int)) (by omega) (by omega) (Int.le_refl _) (by omega), show Tryd.prog.elem 22 = 5 from rfl, Tryd.sizeOf5 w]
    have e1 : ((j : Int) + (m : Int)).toNat = j + m := by omega
    have e2 : ¬ j + m = j := by omega
    simp only [Result.andThen, sliced, e1, Int.toNat_natCast, if_neg e2, Option.map_some, Nat.mul_one, add_plain, Nat.add_sub_cancel_left]
  obtain ⟨W, hW⟩ : ∃ W, w.setCell ⟨R, 1, none⟩ (.int .i64 ((j : Int) + (m : Int))) = W := ⟨_, rfl⟩
  have XW : Hid (Box W R #[.slice (some ⟨b, o, none⟩) n c, .int .i64 ((j : Int) + (m : Int))] 66) := by rw [← hW]; exact h.box.put 1 _
  have HGW : Hid (w.grownBy W (some R)) := by rw [← hW]; exact grownBy_setAt _ _ _ _
  have HW : Hid (w.setCell ⟨R, 1, none⟩ (.int .i64 ((j : Int) + (m : Int))) = W) := hW
  obtain ⟨k0, k1, _, _⟩ := XW.out.drew.two
  clear h hW
  go_enter Tryd.func68, Tryd.ntmps68
  go_upto_region 1 with (fail)
  go_region_held3 (fun w' => w'.cell? ⟨R, 0, none⟩ = some (.slice (some ⟨b, o, none⟩) n c) ∧ w'.cell? ⟨R, 1, none⟩ = some (.int .i64 (j : Int)))
    (first | (with_reducible exact ⟨c0, c1⟩) | go_keep)
    (fail)
  clear hw hd
  go_upto_region 5 with (fail)
  rw [HW.out]
  clear hs hn hcap
  go_region_held3 (fun w' => w'.cell? ⟨R, 0, none⟩ = some (.slice (some ⟨b, o, none⟩) n c) ∧ w'.cell? ⟨R, 1, none⟩ = some (.int .i64 (j + m : Int)))
    (first | (with_reducible exact ⟨k0, k1⟩) | go_keep)
    (fail)
  go_wp2
  go_ret2
  exact ⟨rfl, H.out.turn (far_drew (far_drew HGW.out)) (by have := XW.out.drew.drew; push_cast; exact this) hm, far_drew (far_drew HGW.out)⟩
theorem number_short (w : World) (R : Nat) (a : Option Addr) (n c : Nat) (l : List UInt8) (j : Nat) (h : RdAt w R a n c l j) (m : Nat) (hm : n - j < m) :
    Calls Tryd.prog 58 #[.pointer (some ⟨R, 0, none⟩), .int .i64 (m : Int)] w fun e w' => e = .returned (.tuple #[.int .i64 0, ErrV (n : Int)]) ∧ RdAt w' R a n c l j ∧ w.grownBy w' (some R) := by
  have H : Hid (RdAt w R a n c l j) := h
  clear h
  go_enter Tryd.func58, Tryd.ntmps58
  go_wp2_with fail
  refine (cut_short w R a n c l j H.out m hm).mono ?_
  rintro e w1 ⟨rfl, h1, h2⟩
  have H1 : Hid (RdAt w1 R a n c l j ∧ w.grownBy w1 (some R)) := ⟨h1, h2⟩
  clear h1 h2
  go_wp2
  go_loopw [8, 19] (fun v i wr => v = .int .i64 0 ∧ i = .int .i64 0 ∧ wr = w1) (fun _ _ _ => 0)
  case atStart => exact ⟨rfl, rfl, rfl⟩
  case round =>
    obtain ⟨rfl, rfl, rfl⟩ := hrel
    go_wp2
    go_ret2
    exact ⟨rfl, H1.out⟩
theorem number_ok (w : World) (R : Nat) (a : Option Addr) (n c : Nat) (l : List UInt8) (j : Nat) (h : RdAt w R a n c l j) (m : Nat) (hm : j + m ≤ n) (hm8 : m ≤ 8) (hm0 : 0 < m) :
    Calls Tryd.prog 58 #[.pointer (some ⟨R, 0, none⟩), .int .i64 (m : Int)] w fun e w' => e = .returned (.tuple #[.int .i64 (numV ((l.drop j).take m)), .nilIface]) ∧ RdAt w' R a n c l (j + m) ∧ w.grownBy w' (some R) := by
  have H : Hid (RdAt w R a n c l j) := h
  obtain ⟨hlen, _, h0 | ⟨b, o, rfl, _⟩⟩ := h.bys
  · omega
  clear h
  go_enter Tryd.func58, Tryd.ntmps58
  go_wp2_with fail
  refine (cut_ok w R b o n c l j H.out m hm hm8 hm0).mono ?_
  rintro e w1 ⟨rfl, h1, h2⟩
  have HBY : Hid (BysAt w1 (some ⟨b, o, none⟩) n l) := h1.bys
  have H1 : Hid (RdAt w1 R (some ⟨b, o, none⟩) n c l (j + m) ∧ w.grownBy w1 (some R)) := ⟨h1, h2⟩
  clear h1 h2
  go_wp2
  go_loopw [8, 19] (fun v i wr => ∃ k : Nat, k ≤ m ∧ i = .int .i64 (k : Int) ∧ v = .int .i64 (numV ((l.drop j).take k)) ∧ wr = w1) (fun _ i _ => m - (RowKit.intOf i).toNat)
  case atStart => exact ⟨0, Nat.zero_le _, rfl, rfl, rfl⟩
  case round =>
    obtain ⟨k, hk, rfl, rfl, rfl⟩ := hrel
    by_cases hlt : k < m
    · obtain ⟨x, hx⟩ : ∃ x, l[j + k]? = some x := ⟨_, List.getElem?_eq_getElem (by omega)⟩
      rcases HBY.out.2.2 with h0 | ⟨b', o', e', hc⟩
      · omega
      cases e'
      have c0 := hc _ _ hx
      rw [← Nat.add_assoc] at c0
      have HN : Hid (bits .or .i64 (wrap64 (numV ((l.drop j).take k) * 256)) (x.toNat : Int) = numV ((l.drop j).take (k + 1))) := by
        show _ = _
        have h2 : (l.drop j)[k]? = some x := by rw [List.getElem?_drop, hx]
        have h3 : k < (l.drop j).length := (List.getElem?_eq_some_iff.1 h2).1
        rw [List.take_succ_eq_append_getElem h3, (List.getElem?_eq_some_iff.1 h2).2, numV_snoc]
      obtain ⟨N, hN⟩ : ∃ N, numV ((l.drop j).take k) = N := ⟨_, rfl⟩
      rw [hN] at HN ⊢
      have hk0 : (0 : Int) ≤ (k : Int) := by omega
      have hk1 : (k : Int) < (m : Int) := by omega
      have hx0 : (0 : Int) ≤ (x.toNat : Int) := by omega
      have hx1 : (x.toNat : Int) < 256 := by have := x.toNat_lt; omega
      clear hc hx hN
      go_wp2
      (try rw [HN.out])
      go_roundw
      case rel => exact ⟨k + 1, by omega, by go_num, rfl, trivial⟩
      case measure => simp [RowKit.intOf]; omega
    · obtain rfl : m = k := by omega
      go_wp2
      go_ret2
      exact ⟨rfl, H1.out⟩
end
end Go.Proofs.YtgibeakclknhnaaDoor
namespace Go.Proofs
open Go.Shelf Go.RowKit

def Tryd.lays167_ren : Go.Shelf.Ren := ⟨fun | 167 => 64 | 240 => 65 | 276 => 70 | n => n, fun | 0 => 0 | 4 => 4 | 5 => 5 | 9 => 9 | 20 => 20 | 37 => 22 | 70 => 89 | 72 => 91 | 75 => 43 | 80 => 95 | 164 => 69 | n => n, fun | n => n⟩
theorem Tryd.lays167 : Go.Proofs.Lays.n167 Tryd.prog Tryd.lays167_ren := {
  mixed := by kernel_rfl
  f167 := Tryd.func64.trans (congrArg some (by kernel_rfl))
  f240 := Tryd.func65.trans (congrArg some (by kernel_rfl))
  f276 := Tryd.func70.trans (congrArg some (by kernel_rfl))
  t0 := Tryd.underlying0
  a0 := Tryd.isAgg0
  z0 := Tryd.sizeOf0
  v0 := Tryd.zeroValue0
  t4 := Tryd.underlying4
  a4 := Tryd.isAgg4
  z4 := Tryd.sizeOf4
  v4 := Tryd.zeroValue4
  t5 := Tryd.underlying5
  a5 := Tryd.isAgg5
  z5 := Tryd.sizeOf5
  v5 := Tryd.zeroValue5
  t9 := Tryd.underlying9
  a9 := Tryd.isAgg9
  z9 := Tryd.sizeOf9
  v9 := Tryd.zeroValue9
  t20 := Tryd.underlying20
  a20 := Tryd.isAgg20
  z20 := Tryd.sizeOf20
  v20 := Tryd.zeroValue20
  t37 := Tryd.underlying22
  a37 := Tryd.isAgg22
  z37 := Tryd.sizeOf22
  v37 := Tryd.zeroValue22
  t70 := Tryd.underlying89
  a70 := Tryd.isAgg89
  z70 := Tryd.sizeOf89
  v70 := Tryd.zeroValue89
  t72 := Tryd.underlying91
  a72 := Tryd.isAgg91
  z72 := Tryd.sizeOf91
  v72 := Tryd.zeroValue91
  t75 := Tryd.underlying43
  a75 := Tryd.isAgg43
  z75 := Tryd.sizeOf43
  v75 := Tryd.zeroValue43
  t164 := Tryd.underlying69
  a164 := Tryd.isAgg69
  z164 := Tryd.sizeOf69
  v164 := Tryd.zeroValue69 }
theorem Tryd.Builder_Extra_167 : Builder.Extra Tryd.prog Tryd.lays167_ren := {
  sizeBuilder := by kernel_rfl
  liesBuilder := by kernel_rfl
  t5 := Tryd.underlying5
  a5 := Tryd.isAgg5
  z5 := Tryd.sizeOf5
  v5 := Tryd.zeroValue5
  infoByte := by kernel_rfl
  cellsByte := by kernel_rfl
  sizeByte := by kernel_rfl
  neB5 := by decide }
theorem Tryd.Builder_WriteByte (B b : Nat) (bs : List Value) (c : Int) (w : World) (h : Lib.IsBuilder 91 5 B b bs w) (hlen : bs.length + 1 ≤ 140737488355328) (hBw : B ≤ w.heap.size) :
    Calls Tryd.prog 64 #[.pointer (some ⟨b, 0, none⟩), .int .u8 c] w fun e w' => e = .returned .nilIface ∧ (Lib.BuilderAt 91 5 B b (.pointer (some ⟨b, 0, none⟩)) (bs ++ [.int .u8 c]) w' ∧ Below B w w') :=
  Any.Builder_WriteByte Tryd.lays167 Tryd.Builder_Extra_167 B b bs c w h hlen hBw
end Go.Proofs
namespace Go.Proofs.YtgibeakclknhnaaDoor
section
open Go.ChangeShapes Go.WideShapes Go.ChangeAt Go.RowKit
open Go.Lib (IsBuilder BuilderAt byteCells byteCells_length byteCells_append fresh_isBuilder)

theorem builder_kept {T e : TypeId} {B b R : Nat} {bs : List Value} {w w' : World} (h : IsBuilder T e B b bs w) (hg : w.grownBy w' (some R)) (hR : R < B) : IsBuilder T e B b bs w' := by
  rcases h with ⟨h1, v, h2, h3, h4⟩ | ⟨h1, v, h2, h3, h4⟩
  · exact .inl ⟨h1, v, (hg.block b (Array.getElem?_eq_some_iff.1 h2).1 (fun e => by cases e; omega)).trans h2, h3.kept hg (.inr (fun e => by have := own_block h3 R e; omega)), h4⟩
  · exact .inr ⟨h1, v, (hg.block b (Array.getElem?_eq_some_iff.1 h2).1 (fun e => by cases e; omega)).trans h2, h3.kept hg (.inr (fun e => by have := own_block h3 R e; omega)), h4⟩
theorem far_since {w wr w' : World} {row : Option Nat} (h : w.grownBy wr row) (hb : Below w.heap.size wr w') : w.grownBy w' row :=
  ⟨hb.os.trans h.os, hb.tape.trans h.tape, hb.output.trans h.output, Nat.le_trans h.size hb.size, fun k hk hr => (hb.block k hk).trans (h.block k hk hr)⟩
theorem BysAt.lt {w : World} {a : Option Addr} {n : Nat} {l : List UInt8} (h : BysAt w a n l) : ∀ ad, a = some ad → 0 < n → ad.block < w.heap.size := by
  obtain ⟨h1, _, h3 | ⟨b, o, rfl, h4⟩⟩ := h
  · intro ad _ h0; omega
  · intro ad he h0
    cases he
    exact World.block_lt_of_cell? w _ (h4 0 _ (List.getElem?_eq_getElem (by omega)))
theorem RdAt.since {w w' : World} {R B : Nat} {a : Option Addr} {n c : Nat} {l : List UInt8} {j : Nat} (h : RdAt w R a n c l j) (hb : Below B w w') (hR : R < B) (ha : ∀ ad, a = some ad → 0 < n → ad.block < B) : RdAt w' R a n c l j := by
  refine ⟨h.box.below hb hR, ?_, h.far, h.le, h.cap⟩
  obtain ⟨h1, h2, h3 | ⟨b, o, rfl, h4⟩⟩ := h.bys
  · exact ⟨h1, h2, .inl h3⟩
  · rcases Nat.eq_zero_or_pos n with h0 | h0
    · exact ⟨h1, h2, .inl h0⟩
    · exact ⟨h1, h2, .inr ⟨b, o, rfl, fun i x hi => (hb.cell (show b < B from ha _ rfl h0)).trans (h4 i x hi)⟩⟩
def posOf (w : World) (R : Nat) : Nat := match w.cell? ⟨R, 1, none⟩ with | some (.int _ v) => v.toNat | _ => 0
theorem RdAt.pos {w : World} {R : Nat} {a : Option Addr} {n c : Nat} {l : List UInt8} {j : Nat} (h : RdAt w R a n c l j) : posOf w R = j := by
  obtain ⟨_, c1, _, _⟩ := h.box.two
  unfold posOf
  rw [c1]
  exact Int.toNat_natCast j
theorem fresh_beside {w : World} {T e : TypeId} : IsBuilder T e w.heap.size w.heap.size (byteCells []) (w.alloc (.cells #[.pointer none, .slice none 0 0] T)) := fresh_isBuilder _ _ _
open Go.Lib (IsBuilder BuilderAt byteCells byteCells_length byteCells_append fresh_isBuilder)

def TxtSays (w : World) (R : Nat) (a : Option Addr) (n c : Nat) (l : List UInt8) (j : Nat) (e : Ending) (w' : World) : Prop :=
  ((∃ (s : ByteArray) (k : Nat), e = .returned (.tuple #[.string s, .nilIface]) ∧ l.drop j = (escB s.data.toList ++ [0, 1]) ++ l.drop k ∧ j < k ∧ RdAt w' R a n c l k) ∨ (∃ (p : Int) (k : Nat), e = .returned (.tuple #[.string ⟨#[]⟩, ErrV p]) ∧ (∀ s r, ¬ l.drop j = (escB s ++ [0, 1]) ++ r) ∧ RdAt w' R a n c l k)) ∧ w.grownBy w' (some R)
theorem text_any (w : World) (R : Nat) (a : Option Addr) (n c : Nat) (l : List UInt8) (j : Nat) (h : RdAt w R a n c l j) (hR : R < w.heap.size) :
    Calls Tryd.prog 59 #[.pointer (some ⟨R, 0, none⟩)] w fun e w' => TxtSays w R a n c l j e w' := by
  obtain ⟨W, hW⟩ : ∃ W, w.alloc (.cells #[.pointer none, .slice none 0 0] 91) = W := ⟨_, rfl⟩
  obtain ⟨B, hB⟩ : ∃ B, w.heap.size = B := ⟨_, rfl⟩
  have HBQ : Hid (w.heap.size = B) := hB
  have HI0 : Hid (IsBuilder 91 5 B B (byteCells []) W) := by rw [← hW, ← hB]; exact fresh_beside
  have H0 : Hid (RdAt W R a n c l j) := by rw [← hW]; exact h.below ((Below.refl _ w).alloc (Nat.le_refl _) _)
  have HG0 : Hid (w.grownBy W (some R)) := by rw [← hW]; exact World.grownBy_alloc w _ _
  have HLT : Hid (∀ ad, a = some ad → 0 < n → ad.block < B) := by have := h.bys.lt; rw [hB] at this; exact this
  have HR : Hid (R < B) := by rw [← hB]; exact hR
  have HN : Hid (n ≤ 2097152 ∧ l.length = n) := ⟨h.bys.2.1, h.bys.1⟩
  have HW : Hid (w.alloc (.cells #[.pointer none, .slice none 0 0] 91) = W) := hW
  clear hW hB h hR
  go_enter Tryd.func59, Tryd.ntmps59
  go_upto_region 2 with (fail)
  rw [HW.out]
  (try rw [HBQ.out])
  go_loopw [] (fun wr => ∃ (k : Nat) (o : List UInt8), RdAt wr R a n c l k ∧ j ≤ k ∧ EscT l j k o ∧ o.length ≤ k ∧ IsBuilder 91 5 B B (byteCells o) wr ∧ w.grownBy wr (some R)) (fun wr => n - posOf wr R)
  case atStart => exact ⟨j, [], H0.out, Nat.le_refl _, EscT.start l j, Nat.zero_le _, HI0.out, HG0.out⟩
  case round =>
    obtain ⟨k, o, hrd, hjk, hesc, hok, hib, hgr⟩ := hrel
    have HRD : Hid (RdAt wr R a n c l k) := hrd
    have HESC : Hid (EscT l j k o) := hesc
    have HOK : Hid (o.length ≤ k) := hok
    have HIB : Hid (IsBuilder 91 5 B B (byteCells o) wr) := hib
    have HGR : Hid (w.grownBy wr (some R)) := hgr
    have HPOS : Hid (posOf wr R = k) := hrd.pos
    have HKN : Hid (k ≤ n) := hrd.le
    clear hrd hesc hok hib hgr
    by_cases hkn : k < n
    · obtain ⟨x, hx⟩ := HRD.out.byte hkn
      have HX : Hid (l[k]? = some x) := hx
      have HV1 : Hid (numV ((l.drop k).take 1) = (x.toNat : Int)) := by
        show _ = _
        rw [dropB hx, List.take_succ_cons, List.take_zero]
        exact numV_one x
      clear hx
      go_wp2_with fail
      refine (number_ok wr R a n c l k HRD.out 1 (by omega) (by decide) (by decide)).mono ?_
      rintro e w1 ⟨rfl, h1, h2⟩
      rw [HV1.out]
      have HRD1 : Hid (RdAt w1 R a n c l (k + 1)) := h1
      have HG1 : Hid (w.grownBy w1 (some R)) := HGR.out.trans h2
      have HIB1 : Hid (IsBuilder 91 5 B B (byteCells o) w1) := builder_kept HIB.out h2 HR.out
      have HSZ1 : Hid (B ≤ w1.heap.size) := by have := HG1.out.size; rw [HBQ.out] at this; exact this
      have HOL : Hid (o.length ≤ 2097152) := Nat.le_trans HOK.out (by have := HN.out.1; omega)
      clear h1 h2
      have hx0 : (0 : Int) ≤ (x.toNat : Int) := by omega
      have hx1 : (x.toNat : Int) < 256 := by have := x.toNat_lt; omega
      have hxm : (x.toNat : Int) % 256 = (x.toNat : Int) := by omega
      by_cases hx00 : x = 0
      · subst hx00
        have HX0 : Hid (l[k]? = some 0) := HX.out
        clear HX hx0 hx1 hxm
        by_cases hk2 : k + 1 < n
        · obtain ⟨y, hy⟩ := HRD1.out.byte hk2
          have HY : Hid (l[k + 1]? = some y) := hy
          have HV2 : Hid (numV ((l.drop (k + 1)).take 1) = (y.toNat : Int)) := by
            show _ = _
            rw [dropB hy, List.take_succ_cons, List.take_zero]
            exact numV_one y
          clear hy
          go_wp2_with fail
          refine (number_ok w1 R a n c l (k + 1) HRD1.out 1 (by omega) (by decide) (by decide)).mono ?_
          rintro e w2 ⟨rfl, h1, h2⟩
          rw [HV2.out]
          have HRD2 : Hid (RdAt w2 R a n c l (k + 2)) := h1
          have HG2 : Hid (w.grownBy w2 (some R)) := HG1.out.trans h2
          have HIB2 : Hid (IsBuilder 91 5 B B (byteCells o) w2) := builder_kept HIB1.out h2 HR.out
          have HSZ2 : Hid (B ≤ w2.heap.size) := Nat.le_trans HSZ1.out h2.size
          clear h1 h2
          by_cases hy1 : y = 1
          · subst hy1
            have HDN : Hid (l.drop j = (escB o ++ [0, 1]) ++ l.drop (k + 2)) := HESC.out.done HX0.out HY.out
            go_wp2_with fail
            refine (Tryd.Builder_String_any B B _ w2 HIB2.out HSZ2.out).mono ?_
            rintro e w3 ⟨rfl, hb3⟩
            have HRD3 : Hid (RdAt w3 R a n c l (k + 2)) := HRD2.out.since hb3 HR.out HLT.out
            have HG3 : Hid (w.grownBy w3 (some R)) := far_since HG2.out (by rw [HBQ.out]; exact hb3)
            clear hb3
            go_wp2
            go_ret2
            exact ⟨.inl ⟨_, k + 2, rfl, HDN.out, by omega, HRD3.out⟩, HG3.out⟩
          · have hy1b : ((y.toNat : Int) == 1) = false := by
              rw [beq_eq_false_iff_ne]
              intro e
              exact hy1 (by have h3 : y.toNat = 1 := by omega
                            exact UInt8.toNat_inj.1 h3)
            by_cases hy2 : y = 255
            · subst hy2
              have HES2 : Hid (EscT l j (k + 2) (o ++ [0])) := HESC.out.two HX0.out HY.out
              go_wp2_with fail
              refine (Tryd.Builder_WriteByte B B _ _ w2 HIB2.out (by rw [byteCells_length]; have := HOL.out; omega) HSZ2.out).mono ?_
              rintro e w3 ⟨rfl, hi3, hb3⟩
              have HIB3 : Hid (IsBuilder 91 5 B B (byteCells (o ++ [0])) w3) := by rw [byteCells_append]; exact .inr hi3
              have HRD3 : Hid (RdAt w3 R a n c l (k + 2)) := HRD2.out.since hb3 HR.out HLT.out
              have HG3 : Hid (w.grownBy w3 (some R)) := far_since HG2.out (by rw [HBQ.out]; exact hb3)
              clear hi3 hb3
              go_wp2
              go_roundw
              case rel => exact ⟨k + 2, o ++ [0], HRD3.out, by omega, HES2.out, by rw [List.length_append]; have := HOK.out; show _ + 1 ≤ _; omega, HIB3.out, HG3.out⟩
              case measure => rw [HPOS.out, HRD3.out.pos]; omega
            · have hy2b : ((y.toNat : Int) == 255) = false := by
                rw [beq_eq_false_iff_ne]
                intro e
                exact hy2 (by have h3 : y.toNat = 255 := by omega
                              exact UInt8.toNat_inj.1 h3)
              have hy2c : ((y.toNat : Int) != 255) = true := by rw [bne, hy2b]; rfl
              have HNO : Hid (∀ s r, ¬ l.drop j = (escB s ++ [0, 1]) ++ r) := HESC.out.no fun x hx => by
                rw [HX0.out] at hx
                cases hx
                refine ⟨rfl, fun z hz => ?_⟩
                rw [HY.out] at hz
                cases hz
                exact ⟨hy1, hy2⟩
              obtain ⟨c0, c1, _, _⟩ := HRD2.out.box.two
              have hkb : (k : Int) + 2 ≤ 2097152 := by have := HRD2.out.le; have := HN.out.1; omega
              have hk00 : (0 : Int) ≤ (k : Int) := by omega
              clear hy1 hy2
              go_upto_region 12 with (fail)
              go_region_held3 (fun w' => w'.cell? ⟨R, 0, none⟩ = some (.slice a n c) ∧ w'.cell? ⟨R, 1, none⟩ = some (.int .i64 ((k + 2 : Nat) : Int)))
                (first | (with_reducible exact ⟨c0, c1⟩) | go_keep)
                (fail)
              go_wp2
              go_ret2
              exact ⟨.inr ⟨_, k + 2, rfl, HNO.out, HRD2.out.turn (far_drew (grown_same w2 _)) HRD2.out.box.drew HRD2.out.le⟩, far_drew HG2.out⟩
        · have HNO : Hid (∀ s r, ¬ l.drop j = (escB s ++ [0, 1]) ++ r) := HESC.out.no fun x hx => by
            rw [HX0.out] at hx
            cases hx
            exact ⟨rfl, fun z hz => absurd (one_len hz) (by have := HN.out.2; omega)⟩
          go_wp2_with fail
          refine (number_short w1 R a n c l (k + 1) HRD1.out 1 (by omega)).mono ?_
          rintro e w2 ⟨rfl, h1, h2⟩
          have HRD2 : Hid (RdAt w2 R a n c l (k + 1)) := h1
          have HG2 : Hid (w.grownBy w2 (some R)) := HG1.out.trans h2
          clear h1 h2
          go_wp2
          go_ret2
          exact ⟨.inr ⟨_, k + 1, rfl, HNO.out, HRD2.out⟩, HG2.out⟩
      · have hxb : ((x.toNat : Int) == 0) = false := by
          rw [beq_eq_false_iff_ne]
          have := u8_pos hx00
          omega
        have HES1 : Hid (EscT l j (k + 1) (o ++ [x])) := HESC.out.one HX.out hx00
        clear hx00
        go_wp2_with fail
        refine (Tryd.Builder_WriteByte B B _ _ w1 HIB1.out (by rw [byteCells_length]; have := HOL.out; omega) HSZ1.out).mono ?_
        rintro e w3 ⟨rfl, hi3, hb3⟩
        have HIB3 : Hid (IsBuilder 91 5 B B (byteCells (o ++ [x])) w3) := by rw [byteCells_append]; exact .inr hi3
        have HRD3 : Hid (RdAt w3 R a n c l (k + 1)) := HRD1.out.since hb3 HR.out HLT.out
        have HG3 : Hid (w.grownBy w3 (some R)) := far_since HG1.out (by rw [HBQ.out]; exact hb3)
        clear hi3 hb3
        go_wp2
        go_roundw
        case rel => exact ⟨k + 1, o ++ [x], HRD3.out, by omega, HES1.out, by rw [List.length_append]; have := HOK.out; show _ + 1 ≤ _; omega, HIB3.out, HG3.out⟩
        case measure => rw [HPOS.out, HRD3.out.pos]; omega
    · have HNO : Hid (∀ s r, ¬ l.drop j = (escB s ++ [0, 1]) ++ r) := HESC.out.no fun x hx => absurd (one_len hx) (by have := HN.out.2; omega)
      go_wp2_with fail
      refine (number_short wr R a n c l k HRD.out 1 (by omega)).mono ?_
      rintro e w1 ⟨rfl, h1, h2⟩
      have HRD1 : Hid (RdAt w1 R a n c l k) := h1
      have HG1 : Hid (w.grownBy w1 (some R)) := HGR.out.trans h2
      clear h1 h2
      go_wp2
      go_ret2
      exact ⟨.inr ⟨_, k, rfl, HNO.out, HRD1.out⟩, HG1.out⟩
theorem within_g (x lo hi : Int) (w : World) : Calls Tryd.prog 47 #[.int .i64 x, .int .i64 lo, .int .i64 hi] w fun e w' => e = .returned (.bool (inB x lo hi)) ∧ w' = w := by
  by_cases h0 : lo ≤ x
  · by_cases h1 : x ≤ hi
    · rw [inB_yes ⟨h0, h1⟩]
      go_enter Tryd.func47, Tryd.ntmps47
      go_wp2
      go_ret
      exact ⟨rfl, rfl⟩
    · rw [inB_no (fun h => h1 h.2)]
      go_enter Tryd.func47, Tryd.ntmps47
      go_wp2
      go_ret
      exact ⟨rfl, rfl⟩
  · rw [inB_no (fun h => h0 h.1)]
    go_enter Tryd.func47, Tryd.ntmps47
    go_wp2
    go_ret
    exact ⟨rfl, rfl⟩
theorem same_yes {k n : Int} {s : ByteArray} {k' n' : Int} {s' : ByteArray} (h : k = k' ∧ n = n' ∧ s = s') : sameV k n s k' n' s' = true := decide_eq_true h
theorem same_no {k n : Int} {s : ByteArray} {k' n' : Int} {s' : ByteArray} (h : ¬ (k = k' ∧ n = n' ∧ s = s')) : sameV k n s k' n' s' = false := decide_eq_false h
theorem str_sz {s : ByteArray} (h : s = ⟨#[]⟩) : s.size = 0 := by subst h; rfl
theorem implValueOk_any (k n : Int) (s : ByteArray) (w : World) :
    Calls Tryd.prog 29 #[VaV k n s] w fun e w' => e = .returned (.bool (decide (VaGood k n s))) ∧ Below w.heap.size w w' := by
  obtain ⟨B, hB⟩ : ∃ B, decide (VaGood k n s) = B := ⟨_, rfl⟩
  rw [hB]
  have HB : Hid (decide (VaGood k n s) = B) := hB
  clear hB
  obtain ⟨W, hW⟩ : ∃ W, w.alloc (.cells #[.int .i64 k, .int .i64 n, .string s] 37) = W := ⟨_, rfl⟩
  have HB0 : Hid (Below w.heap.size w W) := by rw [← hW]; exact (Below.refl _ w).alloc (Nat.le_refl _) _
  have X0 : Hid (Box W w.heap.size #[.int .i64 k, .int .i64 n, .string s] 37) := by rw [← hW]; exact box_of w _ _
  have HW : Hid (w.alloc (.cells #[.int .i64 k, .int .i64 n, .string s] 37) = W) := hW
  obtain ⟨c0, c1, c2⟩ := X0.out.triV
  clear hW
  have e1 : ∀ w : World, (binOp .eql 37 (.agg #[.int .i64 k, .int .i64 n, .string s]) (.agg #[.int .i64 0, .int .i64 0, .string ⟨#[]⟩])).run Tryd.prog w = .ok (.bool (sameV k n s 0 0 ⟨#[]⟩)) w := eql_va k n s 0 0 ⟨#[]⟩
  have e2 : ∀ w : World, (binOp .eql 37 (.agg #[.int .i64 k, .int .i64 n, .string s]) (.agg #[.int .i64 1, .int .i64 n, .string ⟨#[]⟩])).run Tryd.prog w = .ok (.bool (sameV k n s 1 n ⟨#[]⟩)) w := eql_va k n s 1 n ⟨#[]⟩
  have e3 : ∀ w : World, (binOp .eql 37 (.agg #[.int .i64 k, .int .i64 n, .string s]) (.agg #[.int .i64 2, .int .i64 n, .string ⟨#[]⟩])).run Tryd.prog w = .ok (.bool (sameV k n s 2 n ⟨#[]⟩)) w := eql_va k n s 2 n ⟨#[]⟩
  have e4 : ∀ w : World, (binOp .eql 37 (.agg #[.int .i64 k, .int .i64 n, .string s]) (.agg #[.int .i64 3, .int .i64 0, .string s])).run Tryd.prog w = .ok (.bool (sameV k n s 3 0 s)) w := eql_va k n s 3 0 s
  by_cases h1 : k = 0 ∧ n = 0 ∧ s = ⟨#[]⟩
  · have HBV : Hid (B = true) := by
      show _ = _
      rw [← HB.out]
      exact decide_eq_true (by have := str_sz h1.2.2; unfold VaGood; omega)
    rw [HBV.out]
    have q1 := same_yes h1
    rw [q1] at e1
    clear e2 e3 e4 h1 q1
    go_enter Tryd.func29, Tryd.ntmps29
    go_upto_region 1 with (fail)
    rw [HW.out]
    go_wp2
    go_ret
    exact ⟨rfl, HB0.out⟩
  rw [same_no h1] at e1
  by_cases h2 : k = 1 ∧ n = n ∧ s = ⟨#[]⟩
  · have HBV : Hid (B = inB n 0 1) := by
      show _ = _
      rw [← HB.out]
      have h5 := str_sz h2.2.2
      have h6 := h2.1
      by_cases hn : 0 ≤ n ∧ n ≤ 1
      · rw [inB_yes hn]
        exact decide_eq_true (by unfold VaGood; omega)
      · rw [inB_no hn]
        exact decide_eq_false (by unfold VaGood; omega)
    rw [HBV.out]
    rw [same_yes h2] at e2
    clear e3 e4 h1 h2
    go_enter Tryd.func29, Tryd.ntmps29
    go_upto_region 1 with (fail)
    rw [HW.out]
    go_wp2_with fail
    refine (within_g n 0 1 _).mono ?_
    rintro e w1 ⟨rfl, rfl⟩
    go_wp2
    go_ret
    exact ⟨rfl, HB0.out⟩
  rw [same_no h2] at e2
  by_cases h3 : k = 2 ∧ n = n ∧ s = ⟨#[]⟩
  · have HBV : Hid (B = inB n (-1000000000000) 1000000000000) := by
      show _ = _
      rw [← HB.out]
      have h5 := str_sz h3.2.2
      have h6 := h3.1
      by_cases hn : -1000000000000 ≤ n ∧ n ≤ 1000000000000
      · rw [inB_yes hn]
        exact decide_eq_true (by unfold VaGood; omega)
      · rw [inB_no hn]
        exact decide_eq_false (by unfold VaGood; omega)
    rw [HBV.out]
    rw [same_yes h3] at e3
    clear e4 h1 h2 h3
    go_enter Tryd.func29, Tryd.ntmps29
    go_upto_region 1 with (fail)
    rw [HW.out]
    go_wp2_with fail
    refine (within_g n (-1000000000000) 1000000000000 _).mono ?_
    rintro e w1 ⟨rfl, rfl⟩
    go_wp2
    go_ret
    exact ⟨rfl, HB0.out⟩
  rw [same_no h3] at e3
  by_cases h4 : k = 3 ∧ n = 0 ∧ s = s
  · rw [same_yes h4] at e4
    by_cases hs : s.size ≤ 20
    · have HBV : Hid (B = true) := by
        show _ = _
        rw [← HB.out]
        exact decide_eq_true (by unfold VaGood; omega)
      rw [HBV.out]
      have hsz : ((s.size : Int) ≤ 20) := by omega
      clear h1 h2 h3 h4
      go_enter Tryd.func29, Tryd.ntmps29
      go_upto_region 1 with (fail)
      rw [HW.out]
      go_wp2
      go_ret
      exact ⟨rfl, HB0.out⟩
    · have HBV : Hid (B = false) := by
        show _ = _
        rw [← HB.out]
        exact decide_eq_false (by unfold VaGood; omega)
      rw [HBV.out]
      have hsz : ¬ ((s.size : Int) ≤ 20) := by omega
      clear h1 h2 h3 h4
      go_enter Tryd.func29, Tryd.ntmps29
      go_upto_region 1 with (fail)
      rw [HW.out]
      go_wp2
      go_ret
      exact ⟨rfl, HB0.out⟩
  rw [same_no h4] at e4
  have HBV : Hid (B = false) := by
    show _ = _
    rw [← HB.out]
    refine decide_eq_false ?_
    unfold VaGood
    rintro (⟨r1, r2, r3⟩ | ⟨r1, r2, r3⟩ | ⟨r1, r2, r3⟩ | ⟨r1, r2, r3⟩)
    · exact h1 ⟨r1, r2, str_nil r3⟩
    · exact h2 ⟨r1, rfl, str_nil r3⟩
    · exact h3 ⟨r1, rfl, str_nil r3⟩
    · exact h4 ⟨r1, r2, rfl⟩
  rw [HBV.out]
  clear h1 h2 h3 h4
  go_enter Tryd.func29, Tryd.ntmps29
  go_upto_region 1 with (fail)
  rw [HW.out]
  go_wp2
  go_ret
  exact ⟨rfl, HB0.out⟩
end
end Go.Proofs.YtgibeakclknhnaaDoor
