/- Texts joined: Tup18, Ord18, Rd18, ByA, BytK, MarkAt, DrawT9, SpecVs, SameT, SameI, SpecVl, Sp18b, Be18, Sp18v. -/
import Derived.Test.YtgibeakclknhnaaTR02
import Derived.Test.YtgibeakclknhnaaTR01
import Derived.WalkSmall
import Derived.Deep.RegionHeld3
import Derived.Deep.Cut
import Derived.Test.YtgibeakclknhnaaRows
import Derived.Laws.StructEq
import Derived.Handy
import Derived.Below
set_option maxHeartbeats 4000000
set_option maxRecDepth 100000
namespace Go.Proofs.Ytgibeakclknhnaa
section
open Go.ChangeShapes Go.WideShapes Go.ChangeAt Go.RowKit
def tupLess : List Va3 → List Va3 → Bool
  | [], b => decide (0 < b.length)
  | _ :: _, [] => false
  | x :: a, y :: b => if sameV x.1 x.2.1 x.2.2 y.1 y.2.1 y.2.2 = true then tupLess a b else lessV x.1 x.2.1 x.2.2 y.1 y.2.1 y.2.2
theorem drop_at {L : List Va3} {j : Nat} {x : Va3} (h : L[j]? = some x) : L.drop j = x :: L.drop (j + 1) := by
  rw [List.drop_eq_getElem_cons (List.getElem?_eq_some_iff.1 h).1, (List.getElem?_eq_some_iff.1 h).2]
theorem tup_step {L M : List Va3} {j : Nat} {x y : Va3} (h : L[j]? = some x) (h' : M[j]? = some y) : tupLess (L.drop j) (M.drop j) = if sameV x.1 x.2.1 x.2.2 y.1 y.2.1 y.2.2 = true then tupLess (L.drop (j + 1)) (M.drop (j + 1)) else lessV x.1 x.2.1 x.2.2 y.1 y.2.1 y.2.2 := by
  rw [drop_at h, drop_at h', tupLess]
theorem tup_end {L M : List Va3} {j : Nat} (hl : j ≤ L.length) (hm : j ≤ M.length) (h : ¬ (j < L.length ∧ j < M.length)) : tupLess (L.drop j) (M.drop j) = decide (L.length < M.length) := by
  by_cases h1 : j = L.length
  · rw [List.drop_eq_nil_of_le (by omega), tupLess, List.length_drop]
    exact decide_eq_decide.2 (by omega)
  · have h2 : M.length ≤ j := by omega
    rw [List.drop_eq_nil_of_le h2, drop_at (List.getElem?_eq_getElem (by omega)), tupLess]
    exact (decide_eq_false (by omega)).symm
def beN : Nat → Nat → List UInt8
  | 0, _ => []
  | k + 1, m => beN k (m / 256) ++ [UInt8.ofNat (m % 256)]
def escB : List UInt8 → List UInt8
  | [] => []
  | b :: r => if b = 0 then 0 :: 255 :: escB r else b :: escB r
def vaB (x : Va3) : List UInt8 :=
  if x.1 = 0 then [1] else if x.1 = 1 then [2, UInt8.ofNat x.2.1.toNat] else if x.1 = 2 then 3 :: beN 8 (x.2.1 + 4611686018427387904).toNat else 4 :: (escB x.2.2.data.toList ++ [0, 1])
def tupB (L : List Va3) : List UInt8 := L.flatMap vaB
theorem beN_length : ∀ (k m : Nat), (beN k m).length = k
  | 0, _ => rfl
  | k + 1, m => by rw [beN, List.length_append, beN_length k]; rfl
theorem bl_pre : ∀ (p a b : List UInt8), Op.bytesLess (p ++ a) (p ++ b) = Op.bytesLess a b
  | [], _, _ => rfl
  | x :: p, a, b => by
    show Op.bytesLess (x :: (p ++ a)) (x :: (p ++ b)) = _
    rw [Op.bytesLess, bl_pre p a b]
    have h : ¬ (x < x) := by rw [UInt8.lt_iff_toNat_lt]; omega
    simp [h]
theorem bl_self (a : List UInt8) : Op.bytesLess a a = false := by
  have h := bl_pre a [] []
  rw [List.append_nil] at h
  rw [h]
  rfl
theorem bl_head {x y : UInt8} (a b : List UInt8) (h : ¬ x = y) : Op.bytesLess (x :: a) (y :: b) = decide (x.toNat < y.toNat) := by
  rw [Op.bytesLess]
  have h1 : (x == y) = false := by simpa using h
  rw [h1]
  simp [UInt8.lt_iff_toNat_lt]
theorem u8_ne {p q : Nat} (hp : p < 256) (hq : q < 256) (h : ¬ p = q) : ¬ UInt8.ofNat p = UInt8.ofNat q := by
  intro e
  have := congrArg UInt8.toNat e
  simp at this
  omega
theorem u8_nat {p : Nat} (hp : p < 256) : (UInt8.ofNat p).toNat = p := by simp; omega
theorem bl_beN : ∀ (k m m' : Nat) (a b : List UInt8), m < 256 ^ k → m' < 256 ^ k → ¬ m = m' → Op.bytesLess (beN k m ++ a) (beN k m' ++ b) = decide (m < m')
  | 0, m, m', a, b, h, h', hne => by simp at h h'; omega
  | k + 1, m, m', a, b, h, h', hne => by
    rw [Nat.pow_succ] at h h'
    rw [beN, beN, List.append_assoc, List.append_assoc]
    have h1 : m / 256 < 256 ^ k := Nat.div_lt_of_lt_mul (by omega)
    have h2 : m' / 256 < 256 ^ k := Nat.div_lt_of_lt_mul (by omega)
    by_cases hd : m / 256 = m' / 256
    · rw [hd, bl_pre]
      have hm := Nat.mod_lt m (show 256 > 0 by decide)
      have hm' := Nat.mod_lt m' (show 256 > 0 by decide)
      have hr : ¬ m % 256 = m' % 256 := by omega
      show Op.bytesLess (UInt8.ofNat (m % 256) :: a) (UInt8.ofNat (m' % 256) :: b) = _
      rw [bl_head _ _ (u8_ne hm hm' hr), u8_nat hm, u8_nat hm']
      exact decide_eq_decide.2 (by omega)
    · rw [bl_beN k _ _ _ _ h1 h2 hd]
      exact decide_eq_decide.2 (by omega)
theorem u8_pos {x : UInt8} (h : ¬ x = 0) : 0 < x.toNat := by
  rcases Nat.eq_zero_or_pos x.toNat with h1 | h1
  · exact absurd (UInt8.toNat_inj.1 (by simpa using h1)) h
  · exact h1
theorem bl_esc : ∀ (s s' a b : List UInt8), ¬ s = s' → Op.bytesLess (escB s ++ 0 :: 1 :: a) (escB s' ++ 0 :: 1 :: b) = Op.bytesLess s s'
  | [], [], _, _, h => absurd rfl h
  | [], y :: s', a, b, _ => by
    rw [escB, escB]
    by_cases hy : y = 0
    · rw [if_pos hy]
      show Op.bytesLess ([0] ++ (1 :: a)) ([0] ++ (255 :: (escB s' ++ 0 :: 1 :: b))) = _
      rw [bl_pre, bl_head _ _ (by decide)]
      rfl
    · rw [if_neg hy]
      show Op.bytesLess (0 :: 1 :: a) (y :: (escB s' ++ 0 :: 1 :: b)) = _
      rw [bl_head _ _ (fun e => hy e.symm)]
      exact decide_eq_true (u8_pos hy)
  | x :: s, [], a, b, _ => by
    rw [escB, escB]
    by_cases hx : x = 0
    · rw [if_pos hx]
      show Op.bytesLess ([0] ++ (255 :: (escB s ++ 0 :: 1 :: a))) ([0] ++ (1 :: b)) = _
      rw [bl_pre, bl_head _ _ (by decide)]
      rfl
    · rw [if_neg hx]
      show Op.bytesLess (x :: (escB s ++ 0 :: 1 :: a)) (0 :: 1 :: b) = _
      rw [bl_head _ _ hx]
      exact decide_eq_false (by simp)
  | x :: s, y :: s', a, b, h => by
    by_cases hxy : x = y
    · subst hxy
      have hs : ¬ s = s' := fun e => h (by rw [e])
      have ih := bl_esc s s' a b hs
      have hr : Op.bytesLess (x :: s) (x :: s') = Op.bytesLess s s' := bl_pre [x] s s'
      rw [escB, escB, hr, ← ih]
      by_cases hx : x = 0
      · rw [if_pos hx, if_pos hx]
        exact bl_pre [0, 255] _ _
      · rw [if_neg hx, if_neg hx]
        exact bl_pre [x] _ _
    · rw [escB, escB, bl_head s s' hxy]
      by_cases hx : x = 0
      · subst hx
        rw [if_pos rfl, if_neg (fun e => hxy e.symm)]
        exact bl_head _ _ hxy
      · by_cases hy : y = 0
        · subst hy
          rw [if_neg hx, if_pos rfl]
          exact bl_head _ _ hxy
        · rw [if_neg hx, if_neg hy]
          exact bl_head _ _ hxy
theorem va_less {x y : Va3} (hx : VaGood x.1 x.2.1 x.2.2) (hy : VaGood y.1 y.2.1 y.2.2) (h : sameV x.1 x.2.1 x.2.2 y.1 y.2.1 y.2.2 = false) (a b : List UInt8) :
    Op.bytesLess (vaB x ++ a) (vaB y ++ b) = lessV x.1 x.2.1 x.2.2 y.1 y.2.1 y.2.2 := by
  obtain ⟨k, n, s⟩ := x
  obtain ⟨k', n', s'⟩ := y
  dsimp only at hx hy h ⊢
  have hne : ¬ (k = k' ∧ n = n' ∧ s = s') := of_decide_eq_false h
  unfold lessV vaB
  dsimp only
  by_cases hk : k = k'
  · subst hk
    rw [if_pos rfl]
    rcases hx with ⟨rfl, h1, h2⟩ | ⟨rfl, h1, h2⟩ | ⟨rfl, h1, h2⟩ | ⟨rfl, h1, h2⟩
    · rcases hy with ⟨_, h3, h4⟩ | ⟨h5, _⟩ | ⟨h5, _⟩ | ⟨h5, _⟩ <;> try (exact absurd h5 (by decide))
      exact absurd ⟨rfl, by rw [h1, h3], by rw [str_nil h2, str_nil h4]⟩ hne
    · rcases hy with ⟨h5, _⟩ | ⟨_, h3, h4⟩ | ⟨h5, _⟩ | ⟨h5, _⟩ <;> try (exact absurd h5 (by decide))
      have hn : ¬ n = n' := fun e => hne ⟨rfl, e, by rw [str_nil h2, str_nil h4]⟩
      rw [if_neg hn]
      show Op.bytesLess ([2] ++ (UInt8.ofNat n.toNat :: a)) ([2] ++ (UInt8.ofNat n'.toNat :: b)) = _
      have e1 : n.toNat < 256 := by omega
      have e2 : n'.toNat < 256 := by omega
      rw [bl_pre, bl_head _ _ (u8_ne e1 e2 (by omega)), u8_nat e1, u8_nat e2]
      exact decide_eq_decide.2 (by omega)
    · rcases hy with ⟨h5, _⟩ | ⟨h5, _⟩ | ⟨_, h3, h4⟩ | ⟨h5, _⟩ <;> try (exact absurd h5 (by decide))
      have hn : ¬ n = n' := fun e => hne ⟨rfl, e, by rw [str_nil h2, str_nil h4]⟩
      rw [if_neg hn]
      show Op.bytesLess ([3] ++ (beN 8 (n + 4611686018427387904).toNat ++ a)) ([3] ++ (beN 8 (n' + 4611686018427387904).toNat ++ b)) = _
      rw [bl_pre, bl_beN 8 _ _ _ _ (by omega) (by omega) (by omega)]
      exact decide_eq_decide.2 (by omega)
    · rcases hy with ⟨h5, _⟩ | ⟨h5, _⟩ | ⟨h5, _⟩ | ⟨_, h3, h4⟩ <;> try (exact absurd h5 (by decide))
      rw [if_pos (h1.trans h3.symm)]
      have hs : ¬ s.data.toList = s'.data.toList := fun e => hne ⟨rfl, h1.trans h3.symm, str_eq e⟩
      show Op.bytesLess ([4] ++ ((escB s.data.toList ++ [0, 1]) ++ a)) ([4] ++ ((escB s'.data.toList ++ [0, 1]) ++ b)) = _
      rw [bl_pre, List.append_assoc, List.append_assoc]
      have h6 := bl_esc s.data.toList s'.data.toList a b hs
      simp only [ByteArray.toList_eq]
      exact h6
  · rw [if_neg hk]
    rcases hx with ⟨rfl, _⟩ | ⟨rfl, _⟩ | ⟨rfl, _⟩ | ⟨rfl, _⟩ <;> rcases hy with ⟨rfl, _⟩ | ⟨rfl, _⟩ | ⟨rfl, _⟩ | ⟨rfl, _⟩ <;> first | exact absurd rfl hk | (exact bl_head _ _ (by decide))
theorem vaB_some (x : Va3) : ∃ c r, vaB x = c :: r := by
  unfold vaB
  split
  · exact ⟨_, _, rfl⟩
  · split
    · exact ⟨_, _, rfl⟩
    · split <;> exact ⟨_, _, rfl⟩
theorem tup_less : ∀ {L M : List Va3}, (∀ x ∈ L, VaGood x.1 x.2.1 x.2.2) → (∀ x ∈ M, VaGood x.1 x.2.1 x.2.2) → Op.bytesLess (tupB L) (tupB M) = tupLess L M
  | [], [], _, _ => rfl
  | [], y :: M, _, _ => by
    obtain ⟨c, r, hc⟩ := vaB_some y
    rw [tupLess]
    show Op.bytesLess [] (vaB y ++ tupB M) = _
    rw [hc]
    rfl
  | x :: L, [], _, _ => by
    rw [tupLess]
    show Op.bytesLess _ [] = _
    cases tupB (x :: L) <;> rfl
  | x :: L, y :: M, hL, hM => by
    rw [tupLess]
    show Op.bytesLess (vaB x ++ tupB L) (vaB y ++ tupB M) = _
    rcases hs : sameV x.1 x.2.1 x.2.2 y.1 y.2.1 y.2.2 with _ | _
    · rw [if_neg (by decide)]
      exact va_less (hL x (by simp)) (hM y (by simp)) hs _ _
    · rw [if_pos rfl]
      have h1 := of_decide_eq_true hs
      have h2 : x = y := by
        obtain ⟨a, b, c⟩ := x
        obtain ⟨a', b', c'⟩ := y
        obtain ⟨rfl, rfl, rfl⟩ := h1
        rfl
      rw [h2, bl_pre]
      exact tup_less (fun z hz => hL z (by simp [hz])) (fun z hz => hM z (by simp [hz]))
theorem bl_tri : ∀ (a b : List UInt8), Op.bytesLess a b = false → Op.bytesLess b a = false → a = b
  | [], [], _, _ => rfl
  | [], y :: b, h, _ => by cases h
  | x :: a, [], _, h => by cases h
  | x :: a, y :: b, h, h' => by
    by_cases hxy : x = y
    · subst hxy
      rw [show x :: a = [x] ++ a from rfl, show x :: b = [x] ++ b from rfl, bl_pre] at h h'
      rw [bl_tri a b h h']
    · rw [bl_head _ _ hxy] at h
      rw [bl_head _ _ (fun e => hxy e.symm)] at h'
      have h1 := of_decide_eq_false h
      have h2 := of_decide_eq_false h'
      exact absurd (UInt8.toNat_inj.1 (by omega)) hxy
theorem lessV_or {x y : Va3} (h : sameV x.1 x.2.1 x.2.2 y.1 y.2.1 y.2.2 = false) : lessV x.1 x.2.1 x.2.2 y.1 y.2.1 y.2.2 = !lessV y.1 y.2.1 y.2.2 x.1 x.2.1 x.2.2 := by
  obtain ⟨k, n, s⟩ := x
  obtain ⟨k', n', s'⟩ := y
  dsimp only at h ⊢
  have hne : ¬ (k = k' ∧ n = n' ∧ s = s') := of_decide_eq_false h
  unfold lessV
  by_cases hk : k = k'
  · subst hk
    rw [if_pos rfl, if_pos rfl]
    by_cases hn : n = n'
    · subst hn
      rw [if_pos rfl, if_pos rfl]
      rcases h1 : Op.bytesLess s.toList s'.toList with _ | _
      · rcases h2 : Op.bytesLess s'.toList s.toList with _ | _
        · have h3 := bl_tri _ _ h1 h2
          simp only [ByteArray.toList_eq] at h3
          exact absurd ⟨rfl, rfl, str_eq h3⟩ hne
        · rfl
      · rcases h2 : Op.bytesLess s'.toList s.toList with _ | _
        · rfl
        · exact absurd (h1.symm.trans (bl_asym _ _ h2)) (by decide)
    · rw [if_neg hn, if_neg (fun e => hn e.symm)]
      by_cases h1 : n < n'
      · rw [decide_eq_true h1, decide_eq_false (by omega)]; rfl
      · rw [decide_eq_false h1, decide_eq_true (by omega)]; rfl
  · rw [if_neg hk, if_neg (fun e => hk e.symm)]
    by_cases h1 : k < k'
    · rw [decide_eq_true h1, decide_eq_false (by omega)]; rfl
    · rw [decide_eq_false h1, decide_eq_true (by omega)]; rfl
where
  bl_asym : ∀ (a b : List UInt8), Op.bytesLess a b = true → Op.bytesLess b a = false
    | _, [], h => by simp [Op.bytesLess] at h
    | [], y :: b, _ => rfl
    | x :: a, y :: b, h => by
      by_cases hxy : x = y
      · subst hxy
        rw [show x :: a = [x] ++ a from rfl, show x :: b = [x] ++ b from rfl, bl_pre] at h ⊢
        exact bl_asym a b h
      · rw [bl_head _ _ hxy] at h
        rw [bl_head _ _ (fun e => hxy e.symm)]
        have h1 := of_decide_eq_true h
        exact decide_eq_false (by omega)
theorem tup_tri : ∀ {L M : List Va3}, tupLess L M = false → tupLess M L = false → L = M
  | [], [], _, _ => rfl
  | [], y :: M, h, _ => by rw [tupLess] at h; exact absurd (of_decide_eq_false h) (by simp)
  | x :: L, [], _, h => by rw [tupLess] at h; exact absurd (of_decide_eq_false h) (by simp)
  | x :: L, y :: M, h, h' => by
    rw [tupLess] at h h'
    rcases hs : sameV x.1 x.2.1 x.2.2 y.1 y.2.1 y.2.2 with _ | _
    · have hs' : sameV y.1 y.2.1 y.2.2 x.1 x.2.1 x.2.2 = false := by
        unfold sameV at hs ⊢
        have h1 := of_decide_eq_false hs
        exact decide_eq_false fun e => h1 ⟨e.1.symm, e.2.1.symm, e.2.2.symm⟩
      rw [hs, if_neg (by decide)] at h
      rw [hs', if_neg (by decide)] at h'
      have h1 := lessV_or hs
      rw [h, h'] at h1
      cases h1
    · have h1 := of_decide_eq_true hs
      have h2 : x = y := by
        obtain ⟨a, b, c⟩ := x
        obtain ⟨a', b', c'⟩ := y
        obtain ⟨rfl, rfl, rfl⟩ := h1
        rfl
      subst h2
      rw [hs, if_pos rfl] at h h'
      rw [tup_tri h h']
theorem tup_inj {L M : List Va3} (hL : ∀ x ∈ L, VaGood x.1 x.2.1 x.2.2) (hM : ∀ x ∈ M, VaGood x.1 x.2.1 x.2.2) (h : tupB L = tupB M) : L = M :=
  tup_tri (by rw [← tup_less hL hM, h, bl_self]) (by rw [← tup_less hM hL, h, bl_self])
theorem escB_le : ∀ (s : List UInt8), (escB s).length ≤ 2 * s.length
  | [] => by simp [escB]
  | b :: s => by
    have := escB_le s
    rw [escB]
    split <;> simp <;> omega
theorem vaB_le {x : Va3} (h : VaGood x.1 x.2.1 x.2.2) : (vaB x).length ≤ 43 := by
  obtain ⟨k, n, s⟩ := x
  dsimp only at h
  unfold vaB
  dsimp only
  have h1 := escB_le s.data.toList
  have h2 : s.data.toList.length = s.size := by simp
  split
  · simp
  · split
    · simp
    · split
      · simp [beN_length]
      · simp
        rcases h with h | h | h | h <;> omega
theorem tupB_le {L : List Va3} (h : TupGood L) : (tupB L).length ≤ 172 := by
  have : ∀ L : List Va3, (∀ x ∈ L, VaGood x.1 x.2.1 x.2.2) → (tupB L).length ≤ 43 * L.length := by
    intro L
    induction L with
    | nil => intro _; simp [tupB]
    | cons x L ih =>
      intro hL
      have h1 := ih fun z hz => hL z (by simp [hz])
      have h2 := vaB_le (hL x (by simp))
      show (vaB x ++ tupB L).length ≤ _
      rw [List.length_append, List.length_cons]
      omega
  have h1 := this L h.1
  have h2 := h.2
  omega
theorem tupB_append (L M : List Va3) : tupB (L ++ M) = tupB L ++ tupB M := by unfold tupB; rw [List.flatMap_append]
def rdT : List UInt8 → Option (List UInt8 × List UInt8)
  | a :: b :: r => if a = 0 then (if b = 1 then some ([], r) else (rdT r).map fun p => (0 :: p.1, p.2)) else (rdT (b :: r)).map fun p => (a :: p.1, p.2)
  | _ => none
termination_by l => l.length
def beV : List UInt8 → Nat
  | l => l.foldl (fun n b => n * 256 + b.toNat) 0
def RdSays (b : List UInt8) (at_ : Nat) (x : Va3) (next : Nat) : Prop := at_ < next ∧ ∀ (y : Va3) (r : List UInt8), VaGood y.1 y.2.1 y.2.2 → b.drop at_ = vaB y ++ r → x = y ∧ next = at_ + (vaB y).length
def TupIs (b : List UInt8) (L : List Va3) : Prop := TupGood L ∧ tupB L = b
theorem TupIs.one {b : List UInt8} {L M : List Va3} (h : TupIs b L) (h' : TupIs b M) : L = M := tup_inj h.1.1 h'.1.1 (h.2.trans h'.2.symm)
def RdTup (b : List UInt8) (L : List Va3) (at_ : Nat) : Prop := ∀ M, TupIs b M → ∃ S, M = L ++ S ∧ at_ ≤ b.length ∧ b.drop at_ = tupB S
theorem RdTup.next {b : List UInt8} {L : List Va3} {at_ next : Nat} {x : Va3} (h : RdTup b L at_) (hlt : at_ < b.length) (hr : RdSays b at_ x next) : RdTup b (L ++ [x]) next := by
  intro M hM
  obtain ⟨S, hS, hle, hd⟩ := h M hM
  rcases S with _ | ⟨y, S⟩
  · have h1 : (b.drop at_).length = 0 := by rw [hd]; rfl
    rw [List.length_drop] at h1
    omega
  · have hy : VaGood y.1 y.2.1 y.2.2 := hM.1.1 y (by rw [hS]; simp)
    obtain ⟨hx, hn⟩ := hr.2 y (tupB S) hy hd
    refine ⟨S, by rw [hS, hx]; simp, ?_, ?_⟩
    · have h1 : (b.drop at_).length = (vaB y).length + (tupB S).length := by rw [hd]; show (vaB y ++ tupB S).length = _; rw [List.length_append]
      rw [List.length_drop] at h1
      omega
    · rw [hn, ← List.drop_drop, hd]
      show (vaB y ++ tupB S).drop _ = _
      rw [List.drop_left]
theorem RdTup.none {b : List UInt8} {L : List Va3} {at_ : Nat} (h : RdTup b L at_) (he : ¬ (at_ < b.length ∧ L.length ≤ 4)) (hn : ¬ (at_ = b.length ∧ TupGood L ∧ tupB L = b)) : ∀ M, ¬ TupIs b M := by
  intro M hM
  obtain ⟨S, hS, hle, hd⟩ := h M hM
  by_cases h4 : L.length ≤ 4
  · have h1 : at_ = b.length := by omega
    rw [h1, List.drop_length] at hd
    rcases S with _ | ⟨y, S⟩
    · rw [List.append_nil] at hS
      subst hS
      exact hn ⟨h1, hM.1, hM.2⟩
    · obtain ⟨c, r, hc⟩ := vaB_some y
      have h2 : tupB (y :: S) = c :: (r ++ tupB S) := by show vaB y ++ tupB S = _; rw [hc]; rfl
      rw [h2] at hd
      cases hd
  · have h1 := hM.1.2
    rw [hS, List.length_append] at h1
    omega
open Go.Lib (byteCells byteCells_length byteCells_append)

def BysAt (w : World) (a : Option Addr) (n : Nat) (l : List UInt8) : Prop :=
  l.length = n ∧ n ≤ 2097152 ∧ (n = 0 ∨ ∃ b o, a = some ⟨b, o, none⟩ ∧ ∀ i x, l[i]? = some x → w.cell? ⟨b, o + i, none⟩ = some (.int .u8 (x.toNat : Int)))
theorem BysAt.below {w w' : World} {a : Option Addr} {n : Nat} {l : List UInt8} (h : BysAt w a n l) {B : Nat} (hb : Below B w w') (hB : w.heap.size ≤ B) : BysAt w' a n l := by
  obtain ⟨h1, h2, h3 | ⟨b, o, h3, h4⟩⟩ := h
  · exact ⟨h1, h2, .inl h3⟩
  · refine ⟨h1, h2, .inr ⟨b, o, h3, fun i x hi => ?_⟩⟩
    have h5 := h4 i x hi
    exact (hb.cell (Nat.lt_of_lt_of_le (World.block_lt_of_cell? w _ h5) hB)).trans h5
theorem BysAt.set {w : World} {b o n : Nat} {l : List UInt8} {q : Addr} (h : BysAt w (some ⟨b, o, none⟩) n l) (hq : ¬ b = q.block) (v : Value) : BysAt (w.setCell q v) (some ⟨b, o, none⟩) n l := by
  obtain ⟨h1, h2, h3 | ⟨b', o', h3, h4⟩⟩ := h
  · exact ⟨h1, h2, .inl h3⟩
  · cases h3
    refine ⟨h1, h2, .inr ⟨b, o, rfl, fun i x hi => ?_⟩⟩
    rw [World.cell?_of_block (w := w) (Below.heap_setCell _ _ _ _ hq)]
    exact h4 i x hi
theorem dropB {l : List UInt8} {j : Nat} {x : UInt8} (h : l[j]? = some x) : l.drop j = x :: l.drop (j + 1) := by
  rw [List.drop_eq_getElem_cons (List.getElem?_eq_some_iff.1 h).1, (List.getElem?_eq_some_iff.1 h).2]
def RdT (l : List UInt8) (i j : Nat) (o : List UInt8) : Prop := o.length ≤ j ∧ rdT (l.drop i) = (rdT (l.drop j)).map fun p => (o ++ p.1, p.2)
theorem RdT.two {l : List UInt8} {i j : Nat} {o : List UInt8} {y : UInt8} (h : RdT l i j o) (h0 : l[j]? = some 0) (h1 : l[j + 1]? = some y) (hy : ¬ y = 1) : RdT l i (j + 2) (o ++ [0]) := by
  refine ⟨by rw [List.length_append, List.length_singleton]; have := h.1; omega, ?_⟩
  rw [h.2, dropB h0, dropB h1, rdT, if_pos rfl, if_neg hy]
  rcases rdT (l.drop (j + 2)) with _ | ⟨a, b⟩
  · rfl
  · simp
theorem RdT.one {l : List UInt8} {i j : Nat} {o : List UInt8} {x y : UInt8} (h : RdT l i j o) (h0 : l[j]? = some x) (h1 : l[j + 1]? = some y) (hx : ¬ x = 0) : RdT l i (j + 1) (o ++ [x]) := by
  refine ⟨by rw [List.length_append, List.length_singleton]; have := h.1; omega, ?_⟩
  rw [h.2, dropB h0, dropB h1, rdT, if_neg hx, ← dropB h1]
  rcases rdT (l.drop (j + 1)) with _ | ⟨a, b⟩
  · rfl
  · simp
theorem RdT.none {l : List UInt8} {i j : Nat} {o : List UInt8} (h : RdT l i j o) (hj : ¬ j + 1 < l.length) : rdT (l.drop i) = none := by
  rw [h.2]
  have h1 : (l.drop j).length ≤ 1 := by rw [List.length_drop]; omega
  generalize l.drop j = d at h1 ⊢
  rcases d with _ | ⟨x, _ | ⟨y, r⟩⟩
  · rw [rdT]; rfl
    intro a b r e; cases e
  · rw [rdT]; rfl
    intro a b r e; cases e
  · simp at h1
def TxAns (l : List UInt8) (i : Nat) (e : Ending) : Prop := ∃ (s : ByteArray) (next : Nat), e = .returned (.tuple #[.string s, .int .i64 (next : Int)]) ∧ i < next ∧ next ≤ l.length + 1 ∧ s.size ≤ l.length ∧ ∀ t r, rdT (l.drop i) = some (t, r) → s.data.toList = t ∧ next + r.length = l.length
open Go.Lib (byteCells byteCells_length byteCells_append)

def marksB (n : Nat) : List UInt8 := (List.range n).map fun i => UInt8.ofNat ((i + 1) % 256)
def uptoB (xs : List UInt8) (k n : Nat) : List UInt8 := xs.take k ++ List.replicate (n - k) 0
end
section
open Go.ChangeShapes Go.WideShapes Go.ChangeAt Go.RowKit Go.Joins
open Go.Lib (byteCells byteCells_length byteCells_append)

theorem own_lt {w : World} {base : Nat} {e : TypeId} {size n : Nat} {v : Value} {xs : List Value} (h : w.ownsRow base e size v n xs) : ∀ k, v.ownBlock = some k → k < w.heap.size := by
  intro k hk
  rcases h.2 with ⟨rfl, _⟩ | ⟨g, cap, cur, rfl, _, hh, _⟩
  · cases hk
  · cases hk; exact (Array.getElem?_eq_some_iff.1 hh).1
end
section
open Go.ChangeShapes Go.WideShapes Go.ChangeAt Go.RowKit
theorem own_low {w w' : World} {base : Nat} {e : TypeId} {size n : Nat} {v : Value} {xs : List Value} {B : Nat} (h : w.ownsRow base e size v n xs) (hl : ∀ k, v.ownBlock = some k → k < B) (hb : Below B w w') : w'.ownsRow base e size v n xs :=
  owns_heap h fun k hk => hb.block k (hl k hk)
theorem vaC_set {L : List Va3} {j : Nat} {x : Va3} (hj : j < L.length) : (((vaC L).set (j * 3) (.int .i64 x.1)).set (j * 3 + 1) (.int .i64 x.2.1)).set (j * 3 + 2) (.string x.2.2) = vaC (L.set j x) := by
  have e : L = L.take j ++ L[j] :: L.drop (j + 1) := by rw [← List.drop_eq_getElem_cons hj, List.take_append_drop]
  have h1 : vaC L = vaC (L.take j) ++ .int .i64 L[j].1 :: .int .i64 L[j].2.1 :: .string L[j].2.2 :: vaC (L.drop (j + 1)) := by
    have h2 := congrArg vaC e
    rw [vaC_append, vaC] at h2
    exact h2
  rw [h1, set_three _ _ _ _ _ _ _ _ _ (by rw [vaC_length, List.length_take]; omega), List.set_eq_take_append_cons_drop, if_pos hj, vaC_append, vaC]
theorem drawTupleLess_any (a : Option Addr) (n c : Nat) (w : World) (hn : n ≤ 1048576) (hB : BytesAt w w.heap.size a n) :
    Calls Try.prog 9 #[.slice a n c] w fun e w' => (∃ v1 v2 L M, e = .returned (.tuple #[v1, v2]) ∧ VOwn w' w.heap.size v1 L ∧ VOwn w' w.heap.size v2 M ∧ L.length ≤ 6 ∧ M.length ≤ 6) ∧ Below w.heap.size w w' := by
  have HB : Hid (BytesAt w w.heap.size a n) := hB
  clear hB
  go_enter Try.func9, Try.ntmps9
  go_wp2_with fail
  refine (l1New_any a n c _ hn HB.out).mono ?_
  rintro e w1 ⟨rfl, hC, hb, hz⟩
  obtain ⟨p, hp⟩ : ∃ p, w.heap.size = p := ⟨_, rfl⟩
  have HP : Hid (w.heap.size = p) := hp
  rw [HP.out] at hC ⊢
  have C1 : Hid (Cur 56 w1 p a n c) := hC
  have B1 : Hid (Below p w w1) := by rw [← hp]; exact hb
  have HPG : Hid (p < w1.heap.size) := hC.lt
  clear hC hb hz hp
  go_wp2_with fail
  refine (l18Draw_any p a n c w1 C1.out).mono ?_
  rintro e w2 ⟨v2, L, rfl, ho, ⟨hl, hnn⟩, hc, hf⟩
  have A2 : Hid (VOwn w2 w1.heap.size v2 L) := ho
  have HL5 : Hid (L.length ≤ 5) := hl
  have C2 : Hid (Cur 56 w2 p a n c) := hc
  have B2 : Hid (Below p w w2) := B1.out.grown hf (Nat.le_of_lt HPG.out) (fun k hk => by cases hk; exact Nat.le_refl _)
  have S12 : Hid (w1.heap.size ≤ w2.heap.size) := hf.size
  obtain ⟨ga, ca, hva⟩ : ∃ g cap, v2 = .slice (some ⟨g, 0, none⟩) L.length cap := by
    rcases owns_forms ho with ⟨h1, _⟩ | h1
    · exact absurd h1 hnn
    · exact h1
  subst hva
  have LA : Hid (ga < w2.heap.size) := own_lt ho ga rfl
  have GA : Hid (w1.heap.size ≤ ga) := own_block ho ga rfl
  clear ho hl hc hf hnn
  obtain ⟨g, hg⟩ : ∃ g, w2.heap.size = g := ⟨_, rfl⟩
  obtain ⟨W3, hW3⟩ : ∃ W3, w2.alloc (.cells #[] 44) = W3 := ⟨_, rfl⟩
  have HG : Hid (w2.heap.size = g) := hg
  have HW3 : Hid (w2.alloc (.cells #[] 44) = W3) := hW3
  have O3 : Hid (VOwn W3 g (.slice (some ⟨g, 0, none⟩) 0 0) []) := by rw [← hW3]; exact vown_nil w2 hg (Nat.le_refl _)
  have A3 : Hid (VOwn W3 w1.heap.size (.slice (some ⟨ga, 0, none⟩) L.length ca) L) := by rw [← hW3]; exact A2.out.alloc _
  have C3 : Hid (Cur 56 W3 p a n c) := by rw [← hW3]; exact cur_alloc C2.out _
  have B3 : Hid (Below p w W3) := by rw [← hW3]; exact B2.out.alloc (Nat.le_trans (Nat.le_of_lt HPG.out) S12.out) _
  have Z3 : Hid (g ≤ W3.heap.size) := by show g ≤ W3.heap.size; rw [← hW3, World.size_alloc, hg]; exact Nat.le_succ _
  have LG : Hid (ga < g) := by rw [← hg]; exact LA.out
  have PG : Hid (p < g) := by rw [← hg]; exact Nat.lt_of_lt_of_le HPG.out S12.out
  have PB : Hid (p ≤ w1.heap.size) := Nat.le_of_lt HPG.out
  clear hg hW3
  go_upto_region 4 with (first
    | (at_builtin
       rw [HW3.out, HG.out]
       refine list_appV _ rfl _ _ rfl g (.slice (some ⟨g, 0, none⟩) 0 0) [] rfl O3.out ⟨ga, 0, none⟩ L.length ca L rfl rfl (fun j u hj => by rw [add_plain, Nat.zero_add]; exact own_cellV A3.out hj) (by have := HL5.out; simp; omega) Z3.out ?_
       intro v4 w4 hown hbel hnil
       have O4 : Hid (VOwn w4 g v4 L) := hown
       have hb4 : Below g W3 w4 := hbel W3 g (Nat.le_refl _) (Below.refl g W3)
       have A4 : Hid (VOwn w4 w1.heap.size (.slice (some ⟨ga, 0, none⟩) L.length ca) L) := own_low A3.out (fun k hk => by cases hk; exact LG.out) hb4
       have C4 : Hid (Cur 56 w4 p a n c) := C3.out.keep fun k hk => hb4.block k (Nat.lt_of_le_of_lt hk PG.out)
       have B4 : Hid (Below p w w4) := B3.out.trans (hb4.mono (Nat.le_of_lt PG.out))
       have Z4 : Hid (g ≤ w4.heap.size) := Nat.le_trans Z3.out hb4.size
       clear hown hbel hb4 hnil)
    | fail)
  go_wp2_with fail
  refine (l1Below_any p a n c 4 (by omega) (by omega) w4 C4.out).mono ?_
  rintro e w5 ⟨x, -, rfl, hC5, hO5⟩
  have C5 : Hid (Cur 56 w5 p a n c) := hC5
  have O5 : Hid (VOwn w5 g v4 L) := own_only O4.out (far_only hO5) PG.out
  have A5 : Hid (VOwn w5 w1.heap.size (.slice (some ⟨ga, 0, none⟩) L.length ca) L) := own_only A4.out (far_only hO5) HPG.out
  have B5 : Hid (Below p w w5) := B4.out.trans (hO5.below (Nat.le_refl _))
  have Z5 : Hid (g ≤ w5.heap.size) := Nat.le_trans Z4.out (Nat.le_of_eq hO5.size.symm)
  clear hC5 hO5
  have B5P : Hid (p ≤ w5.heap.size) := Nat.le_trans (Nat.le_of_lt PG.out) Z5.out
  rcases (show x = 0 ∨ x = 1 ∨ x = 2 ∨ (¬ x = 0 ∧ ¬ x = 1 ∧ ¬ x = 2) by omega) with hx | hx | hx | ⟨hx0, hx1, hx2⟩
  · subst hx
    go_wp2
    go_ret2
    exact ⟨⟨_, _, L, L, rfl, own_weaken A5.out (Nat.le_trans (Nat.le_of_eq HP.out) PB.out), own_weaken O5.out (Nat.le_trans (Nat.le_of_eq HP.out) (Nat.le_of_lt PG.out)), by have := HL5.out; omega, by have := HL5.out; omega⟩, by rw [HP.out]; exact B5.out⟩
  · subst hx
    go_upto_region 8 with (fail)
    go_wp2_with (first
      | (go_at_call 29
         refine (l17DrawRight_any p a n c w5 C5.out).mono ?_
         rintro e w6 ⟨k, m, s, rfl, -, -, hO6⟩
         have O6 : Hid (VOwn w6 g v4 L) := own_only O5.out hO6 PG.out
         have A6 : Hid (VOwn w6 w1.heap.size (.slice (some ⟨ga, 0, none⟩) L.length ca) L) := own_only A5.out hO6 HPG.out
         have B6 : Hid (Below p w w6) := B5.out.grown hO6 B5P.out (fun k hk => by cases hk; exact Nat.le_refl _)
         have Z6 : Hid (g ≤ w6.heap.size) := Nat.le_trans Z5.out hO6.size
         clear hO6)
      | (at_builtin
         refine list_appV _ rfl _ _ rfl g v4 L rfl (O6.out.alloc _) ⟨w6.heap.size, 0, none⟩ 1 1 [(k, m, s)] rfl rfl (vnews _ _ rfl (k, m, s)) (by have := HL5.out; omega) (by have := Z6.out; simp; omega) ?_
         intro v7 w7 hown hbel hnil
         have O7 : Hid (VOwn w7 g v7 (L ++ [(k, m, s)])) := hown
         have hb7 : Below g w6 w7 := hbel w6 g (Nat.le_refl _) ((Below.refl g w6).alloc Z6.out _)
         have A7 : Hid (VOwn w7 w1.heap.size (.slice (some ⟨ga, 0, none⟩) L.length ca) L) := own_low A6.out (fun k hk => by cases hk; exact LG.out) hb7
         have B7 : Hid (Below p w w7) := B6.out.trans (hb7.mono (Nat.le_of_lt PG.out))
         clear hown hbel hb7 hnil))
    go_ret2
    exact ⟨⟨_, _, L, (L ++ [(k, m, s)]), rfl, own_weaken A7.out (Nat.le_trans (Nat.le_of_eq HP.out) PB.out), own_weaken O7.out (Nat.le_trans (Nat.le_of_eq HP.out) (Nat.le_of_lt PG.out)), by have := HL5.out; omega, by rw [List.length_append]; have := HL5.out; show L.length + 1 ≤ 6; omega⟩, by rw [HP.out]; exact B7.out⟩
  · subst hx
    by_cases hL : L.length = 0
    · have hL0 : ¬ ((L.length : Int) > 0) := by omega
      have hL0' : ¬ ((0 : Int) < (L.length : Int)) := by omega
      obtain ⟨ab, cb, hv4, -, -⟩ := own_vas O5.out (by have := HL5.out; omega)
      have HV4 : Hid (v4 = .slice ab L.length cb) := hv4
      subst hv4
      clear hL
      go_wp2
      go_ret2
      exact ⟨⟨_, _, L, L, rfl, own_weaken A5.out (Nat.le_trans (Nat.le_of_eq HP.out) PB.out), own_weaken O5.out (Nat.le_trans (Nat.le_of_eq HP.out) (Nat.le_of_lt PG.out)), by have := HL5.out; omega, by have := HL5.out; omega⟩, by rw [HP.out]; exact B5.out⟩
    · obtain ⟨gb, cb, hv4⟩ : ∃ g cap, v4 = .slice (some ⟨g, 0, none⟩) L.length cap := by
        rcases owns_forms O5.out with ⟨_, h1⟩ | h1
        · exact absurd h1 hL
        · exact h1
      subst hv4
      obtain ⟨j, hj⟩ : ∃ j, L.length = j + 1 := ⟨L.length - 1, by omega⟩
      have HJ : Hid (L.length = j + 1) := hj
      have hL0 : ((L.length : Int) > 0) := by omega
      have hL0' : ((0 : Int) < (L.length : Int)) := by omega
      have hLj : (L.length : Int) - 1 = (j : Int) := by omega
      have hjL : (j : Int) < (L.length : Int) := by omega
      have hj0 : (0 : Int) ≤ (j : Int) := by omega
      have hjm : (L.length : Int) ≤ 5 := by have := HL5.out; omega
      clear hL hj
      go_upto_region 11 with (fail)
      go_wp2_with
        (go_at_call 29
         refine (l17DrawRight_any p a n c w5 C5.out).mono ?_
         rintro e w6 ⟨k, m, s, rfl, -, -, hO6⟩
         have O6 : Hid (VOwn w6 g (.slice (some ⟨gb, 0, none⟩) L.length cb) L) := own_only O5.out hO6 PG.out
         have A6 : Hid (VOwn w6 w1.heap.size (.slice (some ⟨ga, 0, none⟩) L.length ca) L) := own_only A5.out hO6 HPG.out
         have B6 : Hid (Below p w w6) := B5.out.grown hO6 B5P.out (fun k hk => by cases hk; exact Nat.le_refl _)
         have o1 := O6.out.stored (j * 3) (.int .i64 k)
         have o2 := o1.1.stored (j * 3 + 1) (.int .i64 m)
         have o3 := o2.1.stored (j * 3 + 2) (.string s)
         obtain ⟨u0, hu0⟩ : ∃ u, (vaC L)[j * 3]? = some u := ⟨_, List.getElem?_eq_getElem (by rw [vaC_length, HJ.out]; omega)⟩
         obtain ⟨u1, hu1⟩ : ∃ u, (vaC L)[j * 3 + 1]? = some u := ⟨_, List.getElem?_eq_getElem (by rw [vaC_length, HJ.out]; omega)⟩
         obtain ⟨u2, hu2⟩ : ∃ u, (vaC L)[j * 3 + 2]? = some u := ⟨_, List.getElem?_eq_getElem (by rw [vaC_length, HJ.out]; omega)⟩
         have c0 := own_cellV O6.out hu0
         have c1 := own_cellV O6.out hu1
         have c2 := own_cellV O6.out hu2
         have f0 := O6.out.frozenAt (j * 3)
         have f1 := O6.out.frozenAt (j * 3 + 1)
         have f2 := O6.out.frozenAt (j * 3 + 2)
         have O9 : Hid (((((w6.setCell ⟨gb, j * 3, none⟩ (.int .i64 k)).setCell ⟨gb, j * 3 + 1, none⟩ (.int .i64 m)).setCell ⟨gb, j * 3 + 2, none⟩ (.string s))).ownsRow g 44 3 (.slice (some ⟨gb, 0, none⟩) L.length cb) L.length _) := o3.1
         clear o1 o2 o3 hu0 hu1 hu2 hO6)
      have HS := vaC_set (L := L) (x := (k, m, s)) (show j < L.length by omega)
      have ho9 := O9.out
      rw [HS] at ho9
      have O10 : Hid (VOwn (((w6.setCell ⟨gb, j * 3, none⟩ (.int .i64 k)).setCell ⟨gb, j * 3 + 1, none⟩ (.int .i64 m)).setCell ⟨gb, j * 3 + 2, none⟩ (.string s)) g (.slice (some ⟨gb, 0, none⟩) L.length cb) (L.set j (k, m, s))) := by
        unfold VOwn
        rw [List.length_set]
        exact ho9
      have hgb : g ≤ gb := own_block O6.out gb rfl
      have hne : (Value.slice (some ⟨ga, 0, none⟩) L.length ca).ownBlock ≠ some gb := fun e => by
        have h1 : ga = gb := Option.some.inj e
        have := LG.out
        omega
      have A10 : Hid (VOwn (((w6.setCell ⟨gb, j * 3, none⟩ (.int .i64 k)).setCell ⟨gb, j * 3 + 1, none⟩ (.int .i64 m)).setCell ⟨gb, j * 3 + 2, none⟩ (.string s)) w1.heap.size (.slice (some ⟨ga, 0, none⟩) L.length ca) L) := own_setCell_far (own_setCell_far (own_setCell_far A6.out hne _) hne _) hne _
      have hpb : p ≤ gb := Nat.le_trans (Nat.le_of_lt PG.out) hgb
      have B10 : Hid (Below p w (((w6.setCell ⟨gb, j * 3, none⟩ (.int .i64 k)).setCell ⟨gb, j * 3 + 1, none⟩ (.int .i64 m)).setCell ⟨gb, j * 3 + 2, none⟩ (.string s))) := ((B6.out.setCell hpb _).setCell hpb _).setCell hpb _
      clear ho9 c0 c1 c2 f0 f1 f2
      go_ret2
      exact ⟨⟨_, _, L, (L.set j (k, m, s)), rfl, own_weaken A10.out (Nat.le_trans (Nat.le_of_eq HP.out) PB.out), own_weaken O10.out (Nat.le_trans (Nat.le_of_eq HP.out) (Nat.le_of_lt PG.out)), by have := HL5.out; omega, by rw [List.length_set]; have := HL5.out; omega⟩, by rw [HP.out]; exact B10.out⟩
  · have hb0 : ((x : Int) == 0) = false := by rw [beq_eq_false_iff_ne]; omega
    have hb1 : ((x : Int) == 1) = false := by rw [beq_eq_false_iff_ne]; omega
    have hb2 : ((x : Int) == 2) = false := by rw [beq_eq_false_iff_ne]; omega
    go_wp2_with
      (go_at_call 27
       refine (l18Draw_any p a n c w5 C5.out).mono ?_
       rintro e w6 ⟨v6, M, rfl, ho, ⟨hl6, -⟩, -, hf6⟩
       have O6 : Hid (VOwn w6 w5.heap.size v6 M) := ho
       have HM : Hid (M.length ≤ 5) := hl6
       have A6 : Hid (VOwn w6 w1.heap.size (.slice (some ⟨ga, 0, none⟩) L.length ca) L) := own_only A5.out hf6 HPG.out
       have B6 : Hid (Below p w w6) := B5.out.grown hf6 B5P.out (fun k hk => by cases hk; exact Nat.le_refl _)
       clear ho hl6 hf6)
    go_ret2
    exact ⟨⟨_, _, L, M, rfl, own_weaken A6.out (Nat.le_trans (Nat.le_of_eq HP.out) PB.out), own_weaken O6.out (Nat.le_trans (Nat.le_of_eq HP.out) B5P.out), by have := HL5.out; omega, by have := HM.out; omega⟩, by rw [HP.out]; exact B6.out⟩
theorem str_ne {s s' : ByteArray} (h : ¬ s = s') : (s.toList == s'.toList) = false := by
  simp only [ByteArray.toList_eq]
  rw [beq_eq_false_iff_ne]
  exact fun e => h (str_eq e)
theorem equalIn_va (k n : Int) (s : ByteArray) (k' n' : Int) (s' : ByteArray) (w : World) : (Op.equalIn 10000 44 (.agg #[.int .i64 k, .int .i64 n, .string s]) (.agg #[.int .i64 k', .int .i64 n', .string s'])).run Try.prog w = .ok (sameV k n s k' n' s') w := by
  have hS : Try.prog.underlying 44 = some (.struct (Try.prog.fieldsOf 44)) := by kernel_rfl
  have hp : Try.prog.stoodInHeld 44 = false := by kernel_rfl
  have u3 := Try.underlying3
  have u9 := Try.underlying9
  rw [show (10000 : Nat) = 9999 + 1 from rfl, run_equalIn_agg w 9999 44 _ _ hS hp]
  simp only [Program.fieldsOf, Try.underlying44]
  unfold sameV
  by_cases hk : k = k'
  · subst hk
    by_cases hn : n = n'
    · subst hn
      by_cases hs : s = s'
      · subst hs
        rw [decide_eq_true ⟨rfl, rfl, rfl⟩]
        go_simp
      · have h1 := str_ne hs
        rw [decide_eq_false (fun h => hs h.2.2)]
        go_simp
    · have h1 : (n == n') = false := by simpa using hn
      rw [decide_eq_false (fun h => hn h.2.1)]
      go_simp
  · have h1 : (k == k') = false := by simpa using hk
    rw [decide_eq_false (fun h => hk h.1)]
    go_simp
theorem eql_va (k n : Int) (s : ByteArray) (k' n' : Int) (s' : ByteArray) (w : World) : (binOp .eql 44 (.agg #[.int .i64 k, .int .i64 n, .string s]) (.agg #[.int .i64 k', .int .i64 n', .string s'])).run Try.prog w = .ok (.bool (sameV k n s k' n' s')) w := by
  rw [run_eql_struct, equalIn_va]
  rfl
theorem specValueSame_any (k n : Int) (s : ByteArray) (k' n' : Int) (s' : ByteArray) (w : World) :
    Calls Try.prog 32 #[VaV k n s, VaV k' n' s'] w fun e w' => e = .returned (.bool (sameV k n s k' n' s')) ∧ Below w.heap.size w w' := by
  obtain ⟨W, hW⟩ : ∃ W, (w.alloc (.cells #[.int .i64 k, .int .i64 n, .string s] 44)).alloc (.cells #[.int .i64 k', .int .i64 n', .string s'] 44) = W := ⟨_, rfl⟩
  have HB0 : Hid (Below w.heap.size w W) := by rw [← hW]; exact ((Below.refl _ w).alloc (Nat.le_refl _) _).alloc (by simp) _
  have X0 : Hid (Box W w.heap.size #[.int .i64 k, .int .i64 n, .string s] 44) := by rw [← hW]; exact (box_of w _ _).alloc _
  have X1 : Hid (Box W (w.heap.size + 1) #[.int .i64 k', .int .i64 n', .string s'] 44) := by rw [← hW]; have := box_of (w.alloc (.cells #[.int .i64 k, .int .i64 n, .string s] 44)) #[.int .i64 k', .int .i64 n', .string s'] 44; rwa [World.size_alloc] at this
  have HW : Hid ((w.alloc (.cells #[.int .i64 k, .int .i64 n, .string s] 44)).alloc (.cells #[.int .i64 k', .int .i64 n', .string s'] 44) = W) := hW
  obtain ⟨c0, c1, c2⟩ := X0.out.triV
  obtain ⟨d0, d1, d2⟩ := X1.out.triV
  obtain ⟨B, hB⟩ : ∃ B, sameV k n s k' n' s' = B := ⟨_, rfl⟩
  have heq : ∀ w : World, (binOp .eql 44 (.agg #[.int .i64 k, .int .i64 n, .string s]) (.agg #[.int .i64 k', .int .i64 n', .string s'])).run Try.prog w = .ok (.bool B) w := fun w => by rw [← hB]; exact eql_va k n s k' n' s' w
  rw [hB]
  clear hW hB
  go_enter Try.func32, Try.ntmps32
  go_upto_region 1 with (fail)
  rw [HW.out]
  go_wp2
  go_ret
  exact ⟨rfl, HB0.out⟩
theorem neq_va (k n : Int) (s : ByteArray) (k' n' : Int) (s' : ByteArray) (w : World) : (binOp .neq 44 (.agg #[.int .i64 k, .int .i64 n, .string s]) (.agg #[.int .i64 k', .int .i64 n', .string s'])).run Try.prog w = .ok (.bool (!sameV k n s k' n' s')) w := by
  rw [run_neq_struct, equalIn_va]
  rfl
theorem take_nextT {L M : List Va3} {k : Nat} {x y : Va3} (hx : L[k]? = some x) (hy : M[k]? = some y) (h : L.take k = M.take k) (e : x = y) : L.take (k + 1) = M.take (k + 1) := by
  rw [List.take_add_one, List.take_add_one, h, hx, hy, e]
theorem sameT_any (a1 a2 : Option Addr) (n1 n2 c1 c2 : Nat) (L M : List Va3) (w : World) (h1 : VasAt w a1 n1 L) (h2 : VasAt w a2 n2 M) :
    Calls Try.prog 14 #[.slice a1 n1 c1, .slice a2 n2 c2] w fun e w' => e = .returned (.bool (decide (L = M))) ∧ Below w.heap.size w w' := by
  have H1 : Hid (VasAt w a1 n1 L) := h1
  have H2 : Hid (VasAt w a2 n2 M) := h2
  have L1 : Hid (L.length = n1) := h1.1
  have L2 : Hid (M.length = n2) := h2.1
  have b1 := h1.2.1
  have b2 := h2.2.1
  obtain ⟨B, hB⟩ : ∃ B, decide (L = M) = B := ⟨_, rfl⟩
  rw [hB]
  have HB : Hid (decide (L = M) = B) := hB
  clear h1 h2 hB
  by_cases hn : n1 = n2
  · subst hn
    go_enter Try.func14, Try.ntmps14
    go_wp2
    go_loopw [5] (fun i wr => ∃ k : Nat, k ≤ n1 ∧ i = .int .i64 k ∧ L.take k = M.take k ∧ Below w.heap.size w wr) (fun i _ => n1 - (RowKit.intOf i).toNat)
    case atStart => exact ⟨0, Nat.zero_le _, rfl, rfl, Below.refl _ _⟩
    case round =>
      obtain ⟨k, hk1, rfl, ht, hb⟩ := hrel
      have HT : Hid (L.take k = M.take k) := ht
      have HBW : Hid (Below w.heap.size w wr) := hb
      clear ht hb
      by_cases hlt1 : k < n1
      · rcases (H1.out.below HBW.out (Nat.le_refl _)).2.2 with h | ⟨p1, o1, rfl, g1⟩
        · omega
        rcases (H2.out.below HBW.out (Nat.le_refl _)).2.2 with h | ⟨p2, o2, rfl, g2⟩
        · omega
        obtain ⟨x, hx⟩ : ∃ x, L[k]? = some x := ⟨_, List.getElem?_eq_getElem (by have := L1.out; omega)⟩
        obtain ⟨y, hy⟩ : ∃ y, M[k]? = some y := ⟨_, List.getElem?_eq_getElem (by have := L2.out; omega)⟩
        obtain ⟨e0, e1, e2⟩ := g1 k x hx
        obtain ⟨f0, f1, f2⟩ := g2 k y hy
        have HX : Hid (L[k]? = some x) := hx
        have HY : Hid (M[k]? = some y) := hy
        obtain ⟨x0, x1, x2⟩ := x
        obtain ⟨y0, y1, y2⟩ := y
        dsimp only at e0 e1 e2 f0 f1 f2
        obtain ⟨b, hb⟩ : ∃ b, (!sameV x0 x1 x2 y0 y1 y2) = b := ⟨_, rfl⟩
        have hne : ∀ w : World, (binOp .neq 44 (.agg #[.int .i64 x0, .int .i64 x1, .string x2]) (.agg #[.int .i64 y0, .int .i64 y1, .string y2])).run Try.prog w = .ok (.bool b) w := fun w => by rw [← hb]; exact neq_va x0 x1 x2 y0 y1 y2 w
        have HBB : Hid ((!sameV x0 x1 x2 y0 y1 y2) = b) := hb
        clear g1 g2 hx hy hb
        go_wp2
        go_region
        rcases b with _ | _
        · go_wp2
          have hs : sameV x0 x1 x2 y0 y1 y2 = true := by have := HBB.out; simpa using this
          have hxy := of_decide_eq_true hs
          exact ⟨⟨k + 1, by omega, by go_num, take_nextT HX.out HY.out HT.out (by rw [hxy.1, hxy.2.1, hxy.2.2]), HBW.out.drew⟩, by simp [RowKit.intOf]; omega⟩
        · go_wp2
          go_ret
          refine ⟨?_, HBW.out.drew⟩
          have hs : sameV x0 x1 x2 y0 y1 y2 = false := by have := HBB.out; simpa using this
          have hxy := of_decide_eq_false hs
          have e : L ≠ M := fun e => by
            have h1 := HX.out
            rw [e, HY.out] at h1
            injection h1 with h1
            injection h1 with h1 h2
            injection h2 with h2 h3
            exact hxy ⟨h1.symm, h2.symm, h3.symm⟩
          rw [← HB.out]
          simp [e]
      · obtain rfl : k = n1 := by omega
        go_wp2
        go_ret
        refine ⟨?_, HBW.out⟩
        have l1 := L1.out
        have l2 := L2.out
        have e : L = M := by
          have e0 := HT.out
          rwa [List.take_of_length_le (by omega), List.take_of_length_le (by omega)] at e0
        rw [← HB.out]
        simp [e]
  · have hne : ((n1 : Int) != (n2 : Int)) = true := by simp; omega
    have hxy : L ≠ M := fun e => by have l1 := L1.out; have l2 := L2.out; rw [e] at l1; omega
    have HX : Hid (L ≠ M) := hxy
    clear hxy
    go_enter Try.func14, Try.ntmps14
    go_wp2
    go_ret
    refine ⟨?_, Below.refl _ _⟩
    rw [← HB.out]
    simp [HX.out]
theorem bigI (a : Option Addr) (n c : Nat) (w : World) : Calls Try.prog 8 #[.slice a n c] w fun e w' => e = .returned (.bool (decide (1048576 < n))) ∧ w' = w := by
  obtain ⟨B, hB⟩ : ∃ B, decide (1048576 < n) = B := ⟨_, rfl⟩
  rw [hB]
  have HB : Hid (decide ((1048576 : Int) < (n : Int)) = B) := by
    show _ = _
    rw [← hB, decide_eq_decide]
    omega
  clear hB
  go_enter Try.func8, Try.ntmps8
  go_wp2
  go_ret
  refine ⟨?_, rfl⟩
  rw [← HB.out]
  first | rfl | simp
theorem specValueLess_any (k n : Int) (s : ByteArray) (k' n' : Int) (s' : ByteArray) (w : World) :
    Calls Try.prog 33 #[VaV k n s, VaV k' n' s'] w fun e w' => e = .returned (.bool (lessV k n s k' n' s')) ∧ Below w.heap.size w w' := by
  obtain ⟨W, hW⟩ : ∃ W, (w.alloc (.cells #[.int .i64 k, .int .i64 n, .string s] 44)).alloc (.cells #[.int .i64 k', .int .i64 n', .string s'] 44) = W := ⟨_, rfl⟩
  have HB0 : Hid (Below w.heap.size w W) := by rw [← hW]; exact ((Below.refl _ w).alloc (Nat.le_refl _) _).alloc (by simp) _
  have X0 : Hid (Box W w.heap.size #[.int .i64 k, .int .i64 n, .string s] 44) := by rw [← hW]; exact (box_of w _ _).alloc _
  have X1 : Hid (Box W (w.heap.size + 1) #[.int .i64 k', .int .i64 n', .string s'] 44) := by rw [← hW]; have := box_of (w.alloc (.cells #[.int .i64 k, .int .i64 n, .string s] 44)) #[.int .i64 k', .int .i64 n', .string s'] 44; rwa [World.size_alloc] at this
  have HW : Hid ((w.alloc (.cells #[.int .i64 k, .int .i64 n, .string s] 44)).alloc (.cells #[.int .i64 k', .int .i64 n', .string s'] 44) = W) := hW
  obtain ⟨c0, c1, c2⟩ := X0.out.triV
  obtain ⟨d0, d1, d2⟩ := X1.out.triV
  clear hW
  by_cases hk : k = k'
  · by_cases hn : n = n'
    · have HL : Hid (lessV k n s k' n' s' = Op.bytesLess s.toList s'.toList) := by show _ = _; unfold lessV; rw [if_pos hk, if_pos hn]
      rw [HL.out]
      subst hk hn
      go_enter Try.func33, Try.ntmps33
      go_upto_region 1 with (fail)
      rw [HW.out]
      go_wp2
      go_ret
      exact ⟨rfl, HB0.out⟩
    · have HL : Hid (lessV k n s k' n' s' = decide (n < n')) := by show _ = _; unfold lessV; rw [if_pos hk, if_neg hn]
      rw [HL.out]
      subst hk
      have hb : (n == n') = false := by simpa using hn
      have hc : (n != n') = true := by simpa using hn
      go_enter Try.func33, Try.ntmps33
      go_upto_region 1 with (fail)
      rw [HW.out]
      go_wp2
      go_ret
      exact ⟨rfl, HB0.out⟩
  · have HL : Hid (lessV k n s k' n' s' = decide (k < k')) := by show _ = _; unfold lessV; rw [if_neg hk]
    rw [HL.out]
    have hb : (k == k') = false := by simpa using hk
    have hc : (k != k') = true := by simpa using hk
    go_enter Try.func33, Try.ntmps33
    go_upto_region 1 with (fail)
    rw [HW.out]
    go_wp2
    go_ret
    exact ⟨rfl, HB0.out⟩
theorem specTupleLess_any (a1 a2 : Option Addr) (n1 n2 c1 c2 : Nat) (L M : List Va3) (w : World) (h : VasAt w a1 n1 L) (h' : VasAt w a2 n2 M) :
    Calls Try.prog 11 #[.slice a1 n1 c1, .slice a2 n2 c2] w fun e w' => e = .returned (.bool (tupLess L M)) ∧ Below w.heap.size w w' := by
  obtain ⟨B, hB⟩ : ∃ B, tupLess L M = B := ⟨_, rfl⟩
  rw [hB]
  have HB : Hid (tupLess (L.drop 0) (M.drop 0) = B) := hB
  have HL : Hid (VasAt w a1 n1 L) := h
  have HM : Hid (VasAt w a2 n2 M) := h'
  have hl := h.1
  have hn := h.2.1
  have hl' := h'.1
  have hn' := h'.2.1
  clear hB h h'
  go_enter Try.func11, Try.ntmps11
  go_wp2
  go_loopw [5] (fun i wr => ∃ j : Nat, j ≤ n1 ∧ j ≤ n2 ∧ i = .int .i64 (j : Int) ∧ tupLess (L.drop j) (M.drop j) = B ∧ Below w.heap.size w wr) (fun i _ => n1 - (RowKit.intOf i).toNat)
  case atStart => exact ⟨0, Nat.zero_le _, Nat.zero_le _, rfl, HB.out, Below.refl _ _⟩
  case round =>
    obtain ⟨j, hj, hj', rfl, ht, hb⟩ := hrel
    have HT : Hid (tupLess (L.drop j) (M.drop j) = B) := ht
    have HBW : Hid (Below w.heap.size w wr) := hb
    clear ht hb
    by_cases hlt : j < n1 ∧ j < n2
    · obtain ⟨hlt1, hlt2⟩ := hlt
      rcases (HL.out.below HBW.out (Nat.le_refl _)).2.2 with h0 | ⟨p1, o1, rfl, g1⟩
      · omega
      rcases (HM.out.below HBW.out (Nat.le_refl _)).2.2 with h0 | ⟨p2, o2, rfl, g2⟩
      · omega
      obtain ⟨x, hx⟩ : ∃ x, L[j]? = some x := ⟨_, List.getElem?_eq_getElem (by omega)⟩
      obtain ⟨y, hy⟩ : ∃ y, M[j]? = some y := ⟨_, List.getElem?_eq_getElem (by omega)⟩
      obtain ⟨e0, e1, e2⟩ := g1 j x hx
      obtain ⟨f0, f1, f2⟩ := g2 j y hy
      have hstep := tup_step hx hy
      rw [HT.out] at hstep
      obtain ⟨k, m, s⟩ := x
      obtain ⟨k', m', s'⟩ := y
      dsimp only at e0 e1 e2 f0 f1 f2 hstep
      have HST : Hid (B = if sameV k m s k' m' s' = true then tupLess (L.drop (j + 1)) (M.drop (j + 1)) else lessV k m s k' m' s') := hstep
      have LP1 : p1 < wr.heap.size := World.block_lt_of_cell? wr _ e0
      have LP2 : p2 < wr.heap.size := World.block_lt_of_cell? wr _ f0
      have KS : Hid (∀ z, Below wr.heap.size wr z → z.cell? ⟨p1, o1 + j * 3, none⟩ = some (.int .i64 k) ∧ z.cell? ⟨p1, o1 + j * 3 + 1, none⟩ = some (.int .i64 m) ∧ z.cell? ⟨p1, o1 + j * 3 + 2, none⟩ = some (.string s) ∧ z.cell? ⟨p2, o2 + j * 3, none⟩ = some (.int .i64 k') ∧ z.cell? ⟨p2, o2 + j * 3 + 1, none⟩ = some (.int .i64 m') ∧ z.cell? ⟨p2, o2 + j * 3 + 2, none⟩ = some (.string s')) := fun z hb => ⟨(hb.cell LP1).trans e0, (hb.cell LP1).trans e1, (hb.cell LP1).trans e2, (hb.cell LP2).trans f0, (hb.cell LP2).trans f1, (hb.cell LP2).trans f2⟩
      have HD0 : Hid (Below wr.heap.size wr wr.drew) := (Below.refl _ _).drew
      have K0 : Hid (wr.drew.cell? ⟨p1, o1 + j * 3, none⟩ = some (.int .i64 k) ∧ wr.drew.cell? ⟨p1, o1 + j * 3 + 1, none⟩ = some (.int .i64 m) ∧ wr.drew.cell? ⟨p1, o1 + j * 3 + 2, none⟩ = some (.string s) ∧ wr.drew.cell? ⟨p2, o2 + j * 3, none⟩ = some (.int .i64 k') ∧ wr.drew.cell? ⟨p2, o2 + j * 3 + 1, none⟩ = some (.int .i64 m') ∧ wr.drew.cell? ⟨p2, o2 + j * 3 + 2, none⟩ = some (.string s')) := KS.out _ HD0.out
      have hk0 : (0 : Int) ≤ (j : Int) := by omega
      have hk1 : (j : Int) < (n1 : Int) := by omega
      have hk2 : (j : Int) < (n2 : Int) := by omega
      obtain ⟨b1, hb1⟩ : ∃ b1, sameV k m s k' m' s' = b1 := ⟨_, rfl⟩
      have HB1 : Hid (sameV k m s k' m' s' = b1) := hb1
      clear g1 g2 hx hy hstep hb1 e0 e1 e2 f0 f1 f2
      go_upto_region 4 with (fail)
      go_region_held3 (fun w' => w'.cell? ⟨p1, o1 + j * 3, none⟩ = some (.int .i64 k) ∧ w'.cell? ⟨p1, o1 + j * 3 + 1, none⟩ = some (.int .i64 m) ∧ w'.cell? ⟨p1, o1 + j * 3 + 2, none⟩ = some (.string s) ∧ w'.cell? ⟨p2, o2 + j * 3, none⟩ = some (.int .i64 k') ∧ w'.cell? ⟨p2, o2 + j * 3 + 1, none⟩ = some (.int .i64 m') ∧ w'.cell? ⟨p2, o2 + j * 3 + 2, none⟩ = some (.string s'))
        (first | (with_reducible exact K1.out) | (with_reducible exact K0.out) | go_keep)
        (first
        | (go_at_call 32
           refine (specValueSame_any k m s k' m' s' wr.drew).mono ?_
           rintro e w1 ⟨rfl, hb⟩
           rw [HB1.out]
           have hb' : Below wr.heap.size wr w1 := HD0.out.trans hb
           have HW1 : Hid (Below wr.heap.size wr w1) := hb'
           have K1 : Hid (w1.cell? ⟨p1, o1 + j * 3, none⟩ = some (.int .i64 k) ∧ w1.cell? ⟨p1, o1 + j * 3 + 1, none⟩ = some (.int .i64 m) ∧ w1.cell? ⟨p1, o1 + j * 3 + 2, none⟩ = some (.string s) ∧ w1.cell? ⟨p2, o2 + j * 3, none⟩ = some (.int .i64 k') ∧ w1.cell? ⟨p2, o2 + j * 3 + 1, none⟩ = some (.int .i64 m') ∧ w1.cell? ⟨p2, o2 + j * 3 + 2, none⟩ = some (.string s')) := KS.out _ hb'
           clear hb hb'))
      have HW01 : Hid (Below w.heap.size w w1) := HBW.out.trans (HW1.out.mono HBW.out.size)
      rcases b1 with _ | _
      · have HBL : Hid (lessV k m s k' m' s' = B) := by
          have h1 := HST.out
          rw [HB1.out, if_neg (by decide)] at h1
          exact h1.symm
        have HD1 : Hid (Below wr.heap.size wr w1.drew) := HW1.out.drew
        have K2 : Hid (w1.drew.cell? ⟨p1, o1 + j * 3, none⟩ = some (.int .i64 k) ∧ w1.drew.cell? ⟨p1, o1 + j * 3 + 1, none⟩ = some (.int .i64 m) ∧ w1.drew.cell? ⟨p1, o1 + j * 3 + 2, none⟩ = some (.string s) ∧ w1.drew.cell? ⟨p2, o2 + j * 3, none⟩ = some (.int .i64 k') ∧ w1.drew.cell? ⟨p2, o2 + j * 3 + 1, none⟩ = some (.int .i64 m') ∧ w1.drew.cell? ⟨p2, o2 + j * 3 + 2, none⟩ = some (.string s')) := KS.out _ HD1.out
        go_upto_region 5 with (fail)
        go_region_held3 (fun w' => w'.cell? ⟨p1, o1 + j * 3, none⟩ = some (.int .i64 k) ∧ w'.cell? ⟨p1, o1 + j * 3 + 1, none⟩ = some (.int .i64 m) ∧ w'.cell? ⟨p1, o1 + j * 3 + 2, none⟩ = some (.string s) ∧ w'.cell? ⟨p2, o2 + j * 3, none⟩ = some (.int .i64 k') ∧ w'.cell? ⟨p2, o2 + j * 3 + 1, none⟩ = some (.int .i64 m') ∧ w'.cell? ⟨p2, o2 + j * 3 + 2, none⟩ = some (.string s'))
          (first | (with_reducible exact K3.out) | (with_reducible exact K2.out) | go_keep)
          (first
          | (go_at_call 33
             refine (specValueLess_any k m s k' m' s' w1.drew).mono ?_
             rintro e w2 ⟨rfl, hb⟩
             rw [HBL.out]
             have hb' : Below wr.heap.size wr w2 := HD1.out.trans (hb.mono HW1.out.size)
             have HW2 : Hid (Below wr.heap.size wr w2) := hb'
             have K3 : Hid (w2.cell? ⟨p1, o1 + j * 3, none⟩ = some (.int .i64 k) ∧ w2.cell? ⟨p1, o1 + j * 3 + 1, none⟩ = some (.int .i64 m) ∧ w2.cell? ⟨p1, o1 + j * 3 + 2, none⟩ = some (.string s) ∧ w2.cell? ⟨p2, o2 + j * 3, none⟩ = some (.int .i64 k') ∧ w2.cell? ⟨p2, o2 + j * 3 + 1, none⟩ = some (.int .i64 m') ∧ w2.cell? ⟨p2, o2 + j * 3 + 2, none⟩ = some (.string s')) := KS.out _ hb'
             clear hb hb'))
        go_wp2
        go_ret
        exact ⟨rfl, HBW.out.trans (HW2.out.mono HBW.out.size)⟩
      · have HNX : Hid (tupLess (L.drop (j + 1)) (M.drop (j + 1)) = B) := by
          have h1 := HST.out
          rw [HB1.out, if_pos rfl] at h1
          exact h1.symm
        go_wp2
        go_roundw
        case rel => exact ⟨j + 1, by omega, by omega, by go_num, HNX.out, HW01.out⟩
        case measure => simp [RowKit.intOf]; omega
    · have HE : Hid (decide (n1 < n2) = B) := by
        show _ = _
        rw [← HT.out, tup_end (by omega) (by omega) (by rw [hl, hl']; exact hlt), hl, hl']
      by_cases h1 : j < n1
      · have h2 : ¬ (j < n2) := by omega
        go_wp2
        go_ret
        exact ⟨by rw [← HE.out]; rfl, HBW.out⟩
      · go_wp2
        go_ret
        exact ⟨by rw [← HE.out]; rfl, HBW.out⟩
open Go.Lib (byteCells byteCells_length byteCells_append)

theorem beN_at : ∀ (k m j : Nat), j < k → (beN k m)[j]? = some (UInt8.ofNat (m / 256 ^ (k - 1 - j) % 256))
  | k + 1, m, j, h => by
    rw [beN]
    by_cases hj : j < k
    · rw [List.getElem?_append_left (by rw [beN_length]; exact hj), beN_at k _ j hj, Nat.div_div_eq_div_mul, ← Nat.pow_succ', show (k - 1 - j).succ = k + 1 - 1 - j by omega]
    · have e : j = k := by omega
      subst e
      rw [List.getElem?_append_right (by rw [beN_length]; exact Nat.le_refl _), beN_length, Nat.sub_self, show j + 1 - 1 - j = 0 by omega, Nat.pow_zero, Nat.div_one]
      rfl
theorem beN_succ {k m j : Nat} (h : j < k) : (beN k m).take (j + 1) = (beN k m).take j ++ [UInt8.ofNat (m / 256 ^ (k - 1 - j) % 256)] := by
  have h1 := beN_at k m j h
  have hl : j < (beN k m).length := (List.getElem?_eq_some_iff.1 h1).1
  rw [List.take_succ_eq_append_getElem hl, (List.getElem?_eq_some_iff.1 h1).2]
theorem escB_append (a b : List UInt8) : escB (a ++ b) = escB a ++ escB b := by
  induction a with
  | nil => rfl
  | cons x a ih =>
    show escB (x :: (a ++ b)) = _
    rw [escB, escB, ih]
    split <;> rfl
theorem escB_succ {l : List UInt8} {j : Nat} {b : UInt8} (h : l[j]? = some b) : escB (l.take (j + 1)) = escB (l.take j) ++ (if b = 0 then [0, 255] else [b]) := by
  have hl : j < l.length := (List.getElem?_eq_some_iff.1 h).1
  rw [List.take_succ_eq_append_getElem hl, escB_append, (List.getElem?_eq_some_iff.1 h).2, escB, escB]
theorem shift_byte {m : Nat} {j : Nat} (h : j < 8) : (m : Int) / 2 ^ (56 - 8 * (j : Int)).toNat % 256 = ((m / 256 ^ (8 - 1 - j) % 256 : Nat) : Int) := by
  have e : (2 : Int) ^ (56 - 8 * (j : Int)).toNat = ((256 ^ (8 - 1 - j) : Nat) : Int) := by
    match j, h with
    | 0, _ => rfl
    | 1, _ => rfl
    | 2, _ => rfl
    | 3, _ => rfl
    | 4, _ => rfl
    | 5, _ => rfl
    | 6, _ => rfl
    | 7, _ => rfl
  rw [e, ← Int.natCast_ediv]
  show _ = ((_ : Nat) : Int)
  rw [Int.natCast_emod]
  rfl
open Go.Lib (byteCells byteCells_length byteCells_append)

def VbSays (w : World) (l : List UInt8) (e : Ending) (w' : World) : Prop := ∃ v, e = .returned v ∧ BOwn w' w.heap.size v l ∧ Below w.heap.size w w'
end
end Go.Proofs.Ytgibeakclknhnaa
