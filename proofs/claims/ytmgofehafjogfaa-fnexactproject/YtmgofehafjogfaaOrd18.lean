/- The bytes of a tuple stand in order as the tuples do. No program. -/
import Derived.Test.YtmgofehafjogfaaTup18
namespace Go.Proofs.Ytmgofehafjogfaa
open Go.ChangeShapes Go.WideShapes Go.ChangeAt Go.RowKit

/-- The lowest k bytes of a number, the high ones first. -/
def beN : Nat → Nat → List UInt8
  | 0, _ => []
  | k + 1, m => beN k (m / 256) ++ [UInt8.ofNat (m % 256)]
/-- 255 behind each 0. -/
def escB : List UInt8 → List UInt8
  | [] => []
  | b :: r => if b = 0 then 0 :: 255 :: escB r else b :: escB r
/-- The bytes of a value that is right. -/
def vaB (x : Va3) : List UInt8 :=
  if x.1 = 0 then [1] else if x.1 = 1 then [2, UInt8.ofNat x.2.1.toNat] else if x.1 = 2 then 3 :: beN 8 (x.2.1 + 4611686018427387904).toNat else 4 :: (escB x.2.2.data.toList ++ [0, 1])
def tupB (L : List Va3) : List UInt8 := L.flatMap vaB
theorem beN_length : ∀ (k m : Nat), (beN k m).length = k
  | 0, _ => rfl
  | k + 1, m => by rw [beN, List.length_append, beN_length k]; rfl
theorem bl_pre : ∀ (p a b : List UInt8), Op.bytesLess (p ++ a) (p ++ b) = Op.bytesLess a b
  | [], _, _ => rfl
  | x :: p, a, b => by
    show Op.bytesLess (x :: (p ++ a)) (x :: (p ++ b)) = _
    rw [Op.bytesLess, bl_pre p a b]
    have h : ¬ (x < x) := by rw [UInt8.lt_iff_toNat_lt]; omega
    simp [h]
theorem bl_self (a : List UInt8) : Op.bytesLess a a = false := by
  have h := bl_pre a [] []
  rw [List.append_nil] at h
  rw [h]
  rfl
theorem bl_head {x y : UInt8} (a b : List UInt8) (h : ¬ x = y) : Op.bytesLess (x :: a) (y :: b) = decide (x.toNat < y.toNat) := by
  rw [Op.bytesLess]
  have h1 : (x == y) = false := by simpa using h
  rw [h1]
  simp [UInt8.lt_iff_toNat_lt]
theorem u8_ne {p q : Nat} (hp : p < 256) (hq : q < 256) (h : ¬ p = q) : ¬ UInt8.ofNat p = UInt8.ofNat q := by
  intro e
  have := congrArg UInt8.toNat e
  simp at this
  omega
theorem u8_nat {p : Nat} (hp : p < 256) : (UInt8.ofNat p).toNat = p := by simp; omega
theorem bl_beN : ∀ (k m m' : Nat) (a b : List UInt8), m < 256 ^ k → m' < 256 ^ k → ¬ m = m' → Op.bytesLess (beN k m ++ a) (beN k m' ++ b) = decide (m < m')
  | 0, m, m', a, b, h, h', hne => by simp at h h'; omega
  | k + 1, m, m', a, b, h, h', hne => by
    rw [Nat.pow_succ] at h h'
    rw [beN, beN, List.append_assoc, List.append_assoc]
    have h1 : m / 256 < 256 ^ k := Nat.div_lt_of_lt_mul (by omega)
    have h2 : m' / 256 < 256 ^ k := Nat.div_lt_of_lt_mul (by omega)
    by_cases hd : m / 256 = m' / 256
    · rw [hd, bl_pre]
      have hm := Nat.mod_lt m (show 256 > 0 by decide)
      have hm' := Nat.mod_lt m' (show 256 > 0 by decide)
      have hr : ¬ m % 256 = m' % 256 := by omega
      show Op.bytesLess (UInt8.ofNat (m % 256) :: a) (UInt8.ofNat (m' % 256) :: b) = _
      rw [bl_head _ _ (u8_ne hm hm' hr), u8_nat hm, u8_nat hm']
      exact decide_eq_decide.2 (by omega)
    · rw [bl_beN k _ _ _ _ h1 h2 hd]
      exact decide_eq_decide.2 (by omega)
theorem u8_pos {x : UInt8} (h : ¬ x = 0) : 0 < x.toNat := by
  rcases Nat.eq_zero_or_pos x.toNat with h1 | h1
  · exact absurd (UInt8.toNat_inj.1 (by simpa using h1)) h
  · exact h1
theorem bl_esc : ∀ (s s' a b : List UInt8), ¬ s = s' → Op.bytesLess (escB s ++ 0 :: 1 :: a) (escB s' ++ 0 :: 1 :: b) = Op.bytesLess s s'
  | [], [], _, _, h => absurd rfl h
  | [], y :: s', a, b, _ => by
    rw [escB, escB]
    by_cases hy : y = 0
    · rw [if_pos hy]
      show Op.bytesLess ([0] ++ (1 :: a)) ([0] ++ (255 :: (escB s' ++ 0 :: 1 :: b))) = _
      rw [bl_pre, bl_head _ _ (by decide)]
      rfl
    · rw [if_neg hy]
      show Op.bytesLess (0 :: 1 :: a) (y :: (escB s' ++ 0 :: 1 :: b)) = _
      rw [bl_head _ _ (fun e => hy e.symm)]
      exact decide_eq_true (u8_pos hy)
  | x :: s, [], a, b, _ => by
    rw [escB, escB]
    by_cases hx : x = 0
    · rw [if_pos hx]
      show Op.bytesLess ([0] ++ (255 :: (escB s ++ 0 :: 1 :: a))) ([0] ++ (1 :: b)) = _
      rw [bl_pre, bl_head _ _ (by decide)]
      rfl
    · rw [if_neg hx]
      show Op.bytesLess (x :: (escB s ++ 0 :: 1 :: a)) (0 :: 1 :: b) = _
      rw [bl_head _ _ hx]
      exact decide_eq_false (by simp)
  | x :: s, y :: s', a, b, h => by
    by_cases hxy : x = y
    · subst hxy
      have hs : ¬ s = s' := fun e => h (by rw [e])
      have ih := bl_esc s s' a b hs
      have hr : Op.bytesLess (x :: s) (x :: s') = Op.bytesLess s s' := bl_pre [x] s s'
      rw [escB, escB, hr, ← ih]
      by_cases hx : x = 0
      · rw [if_pos hx, if_pos hx]
        exact bl_pre [0, 255] _ _
      · rw [if_neg hx, if_neg hx]
        exact bl_pre [x] _ _
    · rw [escB, escB, bl_head s s' hxy]
      by_cases hx : x = 0
      · subst hx
        rw [if_pos rfl, if_neg (fun e => hxy e.symm)]
        exact bl_head _ _ hxy
      · by_cases hy : y = 0
        · subst hy
          rw [if_neg hx, if_pos rfl]
          exact bl_head _ _ hxy
        · rw [if_neg hx, if_neg hy]
          exact bl_head _ _ hxy
theorem va_less {x y : Va3} (hx : VaGood x.1 x.2.1 x.2.2) (hy : VaGood y.1 y.2.1 y.2.2) (h : sameV x.1 x.2.1 x.2.2 y.1 y.2.1 y.2.2 = false) (a b : List UInt8) :
    Op.bytesLess (vaB x ++ a) (vaB y ++ b) = lessV x.1 x.2.1 x.2.2 y.1 y.2.1 y.2.2 := by
  obtain ⟨k, n, s⟩ := x
  obtain ⟨k', n', s'⟩ := y
  dsimp only at hx hy h ⊢
  have hne : ¬ (k = k' ∧ n = n' ∧ s = s') := of_decide_eq_false h
  unfold lessV vaB
  dsimp only
  by_cases hk : k = k'
  · subst hk
    rw [if_pos rfl]
    rcases hx with ⟨rfl, h1, h2⟩ | ⟨rfl, h1, h2⟩ | ⟨rfl, h1, h2⟩ | ⟨rfl, h1, h2⟩
    · rcases hy with ⟨_, h3, h4⟩ | ⟨h5, _⟩ | ⟨h5, _⟩ | ⟨h5, _⟩ <;> try (exact absurd h5 (by decide))
      exact absurd ⟨rfl, by rw [h1, h3], by rw [str_nil h2, str_nil h4]⟩ hne
    · rcases hy with ⟨h5, _⟩ | ⟨_, h3, h4⟩ | ⟨h5, _⟩ | ⟨h5, _⟩ <;> try (exact absurd h5 (by decide))
      have hn : ¬ n = n' := fun e => hne ⟨rfl, e, by rw [str_nil h2, str_nil h4]⟩
      rw [if_neg hn]
      show Op.bytesLess ([2] ++ (UInt8.ofNat n.toNat :: a)) ([2] ++ (UInt8.ofNat n'.toNat :: b)) = _
      have e1 : n.toNat < 256 := by omega
      have e2 : n'.toNat < 256 := by omega
      rw [bl_pre, bl_head _ _ (u8_ne e1 e2 (by omega)), u8_nat e1, u8_nat e2]
      exact decide_eq_decide.2 (by omega)
    · rcases hy with ⟨h5, _⟩ | ⟨h5, _⟩ | ⟨_, h3, h4⟩ | ⟨h5, _⟩ <;> try (exact absurd h5 (by decide))
      have hn : ¬ n = n' := fun e => hne ⟨rfl, e, by rw [str_nil h2, str_nil h4]⟩
      rw [if_neg hn]
      show Op.bytesLess ([3] ++ (beN 8 (n + 4611686018427387904).toNat ++ a)) ([3] ++ (beN 8 (n' + 4611686018427387904).toNat ++ b)) = _
      rw [bl_pre, bl_beN 8 _ _ _ _ (by omega) (by omega) (by omega)]
      exact decide_eq_decide.2 (by omega)
    · rcases hy with ⟨h5, _⟩ | ⟨h5, _⟩ | ⟨h5, _⟩ | ⟨_, h3, h4⟩ <;> try (exact absurd h5 (by decide))
      rw [if_pos (h1.trans h3.symm)]
      have hs : ¬ s.data.toList = s'.data.toList := fun e => hne ⟨rfl, h1.trans h3.symm, str_eq e⟩
      show Op.bytesLess ([4] ++ ((escB s.data.toList ++ [0, 1]) ++ a)) ([4] ++ ((escB s'.data.toList ++ [0, 1]) ++ b)) = _
      rw [bl_pre, List.append_assoc, List.append_assoc]
      have h6 := bl_esc s.data.toList s'.data.toList a b hs
      simp only [ByteArray.toList_eq]
      exact h6
  · rw [if_neg hk]
    rcases hx with ⟨rfl, _⟩ | ⟨rfl, _⟩ | ⟨rfl, _⟩ | ⟨rfl, _⟩ <;> rcases hy with ⟨rfl, _⟩ | ⟨rfl, _⟩ | ⟨rfl, _⟩ | ⟨rfl, _⟩ <;> first | exact absurd rfl hk | (exact bl_head _ _ (by decide))
theorem vaB_some (x : Va3) : ∃ c r, vaB x = c :: r := by
  unfold vaB
  split
  · exact ⟨_, _, rfl⟩
  · split
    · exact ⟨_, _, rfl⟩
    · split <;> exact ⟨_, _, rfl⟩
/-- What is less has less bytes. -/
theorem tup_less : ∀ {L M : List Va3}, (∀ x ∈ L, VaGood x.1 x.2.1 x.2.2) → (∀ x ∈ M, VaGood x.1 x.2.1 x.2.2) → Op.bytesLess (tupB L) (tupB M) = tupLess L M
  | [], [], _, _ => rfl
  | [], y :: M, _, _ => by
    obtain ⟨c, r, hc⟩ := vaB_some y
    rw [tupLess]
    show Op.bytesLess [] (vaB y ++ tupB M) = _
    rw [hc]
    rfl
  | x :: L, [], _, _ => by
    rw [tupLess]
    show Op.bytesLess _ [] = _
    cases tupB (x :: L) <;> rfl
  | x :: L, y :: M, hL, hM => by
    rw [tupLess]
    show Op.bytesLess (vaB x ++ tupB L) (vaB y ++ tupB M) = _
    rcases hs : sameV x.1 x.2.1 x.2.2 y.1 y.2.1 y.2.2 with _ | _
    · rw [if_neg (by decide)]
      exact va_less (hL x (by simp)) (hM y (by simp)) hs _ _
    · rw [if_pos rfl]
      have h1 := of_decide_eq_true hs
      have h2 : x = y := by
        obtain ⟨a, b, c⟩ := x
        obtain ⟨a', b', c'⟩ := y
        obtain ⟨rfl, rfl, rfl⟩ := h1
        rfl
      rw [h2, bl_pre]
      exact tup_less (fun z hz => hL z (by simp [hz])) (fun z hz => hM z (by simp [hz]))
theorem bl_tri : ∀ (a b : List UInt8), Op.bytesLess a b = false → Op.bytesLess b a = false → a = b
  | [], [], _, _ => rfl
  | [], y :: b, h, _ => by cases h
  | x :: a, [], _, h => by cases h
  | x :: a, y :: b, h, h' => by
    by_cases hxy : x = y
    · subst hxy
      rw [show x :: a = [x] ++ a from rfl, show x :: b = [x] ++ b from rfl, bl_pre] at h h'
      rw [bl_tri a b h h']
    · rw [bl_head _ _ hxy] at h
      rw [bl_head _ _ (fun e => hxy e.symm)] at h'
      have h1 := of_decide_eq_false h
      have h2 := of_decide_eq_false h'
      exact absurd (UInt8.toNat_inj.1 (by omega)) hxy
theorem lessV_or {x y : Va3} (h : sameV x.1 x.2.1 x.2.2 y.1 y.2.1 y.2.2 = false) : lessV x.1 x.2.1 x.2.2 y.1 y.2.1 y.2.2 = !lessV y.1 y.2.1 y.2.2 x.1 x.2.1 x.2.2 := by
  obtain ⟨k, n, s⟩ := x
  obtain ⟨k', n', s'⟩ := y
  dsimp only at h ⊢
  have hne : ¬ (k = k' ∧ n = n' ∧ s = s') := of_decide_eq_false h
  unfold lessV
  by_cases hk : k = k'
  · subst hk
    rw [if_pos rfl, if_pos rfl]
    by_cases hn : n = n'
    · subst hn
      rw [if_pos rfl, if_pos rfl]
      rcases h1 : Op.bytesLess s.toList s'.toList with _ | _
      · rcases h2 : Op.bytesLess s'.toList s.toList with _ | _
        · have h3 := bl_tri _ _ h1 h2
          simp only [ByteArray.toList_eq] at h3
          exact absurd ⟨rfl, rfl, str_eq h3⟩ hne
        · rfl
      · rcases h2 : Op.bytesLess s'.toList s.toList with _ | _
        · rfl
        · exact absurd (h1.symm.trans (bl_asym _ _ h2)) (by decide)
    · rw [if_neg hn, if_neg (fun e => hn e.symm)]
      by_cases h1 : n < n'
      · rw [decide_eq_true h1, decide_eq_false (by omega)]; rfl
      · rw [decide_eq_false h1, decide_eq_true (by omega)]; rfl
  · rw [if_neg hk, if_neg (fun e => hk e.symm)]
    by_cases h1 : k < k'
    · rw [decide_eq_true h1, decide_eq_false (by omega)]; rfl
    · rw [decide_eq_false h1, decide_eq_true (by omega)]; rfl
where
  bl_asym : ∀ (a b : List UInt8), Op.bytesLess a b = true → Op.bytesLess b a = false
    | _, [], h => by simp [Op.bytesLess] at h
    | [], y :: b, _ => rfl
    | x :: a, y :: b, h => by
      by_cases hxy : x = y
      · subst hxy
        rw [show x :: a = [x] ++ a from rfl, show x :: b = [x] ++ b from rfl, bl_pre] at h ⊢
        exact bl_asym a b h
      · rw [bl_head _ _ hxy] at h
        rw [bl_head _ _ (fun e => hxy e.symm)]
        have h1 := of_decide_eq_true h
        exact decide_eq_false (by omega)
theorem tup_tri : ∀ {L M : List Va3}, tupLess L M = false → tupLess M L = false → L = M
  | [], [], _, _ => rfl
  | [], y :: M, h, _ => by rw [tupLess] at h; exact absurd (of_decide_eq_false h) (by simp)
  | x :: L, [], _, h => by rw [tupLess] at h; exact absurd (of_decide_eq_false h) (by simp)
  | x :: L, y :: M, h, h' => by
    rw [tupLess] at h h'
    rcases hs : sameV x.1 x.2.1 x.2.2 y.1 y.2.1 y.2.2 with _ | _
    · have hs' : sameV y.1 y.2.1 y.2.2 x.1 x.2.1 x.2.2 = false := by
        unfold sameV at hs ⊢
        have h1 := of_decide_eq_false hs
        exact decide_eq_false fun e => h1 ⟨e.1.symm, e.2.1.symm, e.2.2.symm⟩
      rw [hs, if_neg (by decide)] at h
      rw [hs', if_neg (by decide)] at h'
      have h1 := lessV_or hs
      rw [h, h'] at h1
      cases h1
    · have h1 := of_decide_eq_true hs
      have h2 : x = y := by
        obtain ⟨a, b, c⟩ := x
        obtain ⟨a', b', c'⟩ := y
        obtain ⟨rfl, rfl, rfl⟩ := h1
        rfl
      subst h2
      rw [hs, if_pos rfl] at h h'
      rw [tup_tri h h']
/-- Tuples that are right and have the same bytes are the same. -/
theorem tup_inj {L M : List Va3} (hL : ∀ x ∈ L, VaGood x.1 x.2.1 x.2.2) (hM : ∀ x ∈ M, VaGood x.1 x.2.1 x.2.2) (h : tupB L = tupB M) : L = M :=
  tup_tri (by rw [← tup_less hL hM, h, bl_self]) (by rw [← tup_less hM hL, h, bl_self])
theorem escB_le : ∀ (s : List UInt8), (escB s).length ≤ 2 * s.length
  | [] => by simp [escB]
  | b :: s => by
    have := escB_le s
    rw [escB]
    split <;> simp <;> omega
theorem vaB_le {x : Va3} (h : VaGood x.1 x.2.1 x.2.2) : (vaB x).length ≤ 43 := by
  obtain ⟨k, n, s⟩ := x
  dsimp only at h
  unfold vaB
  dsimp only
  have h1 := escB_le s.data.toList
  have h2 : s.data.toList.length = s.size := by simp
  split
  · simp
  · split
    · simp
    · split
      · simp [beN_length]
      · simp
        rcases h with h | h | h | h <;> omega
theorem tupB_le {L : List Va3} (h : TupGood L) : (tupB L).length ≤ 172 := by
  have : ∀ L : List Va3, (∀ x ∈ L, VaGood x.1 x.2.1 x.2.2) → (tupB L).length ≤ 43 * L.length := by
    intro L
    induction L with
    | nil => intro _; simp [tupB]
    | cons x L ih =>
      intro hL
      have h1 := ih fun z hz => hL z (by simp [hz])
      have h2 := vaB_le (hL x (by simp))
      show (vaB x ++ tupB L).length ≤ _
      rw [List.length_append, List.length_cons]
      omega
  have h1 := this L h.1
  have h2 := h.2
  omega
theorem tupB_append (L M : List Va3) : tupB (L ++ M) = tupB L ++ tupB M := by unfold tupB; rw [List.flatMap_append]
end Go.Proofs.Ytmgofehafjogfaa
