/- Texts joined: Ord18, Rd18, TextS, AppB, ByA, DatI, DatO, DatVf, VasC, VasO, OwnV, Nums, Dig, Mark, Cur. -/
import Derived.Test.YtgibeakclknhnaaDoorTU01
import Derived.WalkKit
import Derived.WalkSmall
import Derived.ProofKit
import Derived.Test.YtgibeakclknhnaaDoorRows
import Derived.Lib.UnsafeStr
import Derived.Laws.IdiomStrings
import Derived.Laws.BytesArg
import Derived.Laws.AppendOwn
import Derived.Deep.RegionLaw
import Derived.Deep.Slices
import Derived.Deep.RegionHeld3
import Derived.Deep.Cut
import Derived.Handy
import Derived.Lib.SmallJoins
import Derived.Lib.ItoaNum
import Derived.Lib.ItoaLen
set_option maxHeartbeats 400000
set_option maxRecDepth 100000
namespace Go.Proofs.YtgibeakclknhnaaDoor
section
open Go.ChangeShapes Go.WideShapes Go.ChangeAt Go.RowKit
def beN : Nat → Nat → List UInt8
  | 0, _ => []
  | k + 1, m => beN k (m / 256) ++ [UInt8.ofNat (m % 256)]
def escB : List UInt8 → List UInt8
  | [] => []
  | b :: r => if b = 0 then 0 :: 255 :: escB r else b :: escB r
def vaB (x : Va3) : List UInt8 :=
  if x.1 = 0 then [1] else if x.1 = 1 then [2, UInt8.ofNat x.2.1.toNat] else if x.1 = 2 then 3 :: beN 8 (x.2.1 + 4611686018427387904).toNat else 4 :: (escB x.2.2.data.toList ++ [0, 1])
def tupB (L : List Va3) : List UInt8 := L.flatMap vaB
theorem beN_length : ∀ (k m : Nat), (beN k m).length = k
  | 0, _ => rfl
  | k + 1, m => by rw [beN, List.length_append, beN_length k]; rfl
theorem bl_pre : ∀ (p a b : List UInt8), Op.bytesLess (p ++ a) (p ++ b) = Op.bytesLess a b
  | [], _, _ => rfl
  | x :: p, a, b => by
    show Op.bytesLess (x :: (p ++ a)) (x :: (p ++ b)) = _
    rw [Op.bytesLess, bl_pre p a b]
    have h : ¬ (x < x) := by rw [UInt8.lt_iff_toNat_lt]; omega
    simp [h]
theorem bl_self (a : List UInt8) : Op.bytesLess a a = false := by
  have h := bl_pre a [] []
  rw [List.append_nil] at h
  rw [h]
  rfl
theorem bl_head {x y : UInt8} (a b : List UInt8) (h : ¬ x = y) : Op.bytesLess (x :: a) (y :: b) = decide (x.toNat < y.toNat) := by
  rw [Op.bytesLess]
  have h1 : (x == y) = false := by simpa using h
  rw [h1]
  simp [UInt8.lt_iff_toNat_lt]
theorem u8_ne {p q : Nat} (hp : p < 256) (hq : q < 256) (h : ¬ p = q) : ¬ UInt8.ofNat p = UInt8.ofNat q := by
  intro e
  have := congrArg UInt8.toNat e
  simp at this
  omega
theorem u8_nat {p : Nat} (hp : p < 256) : (UInt8.ofNat p).toNat = p := by simp; omega
theorem bl_beN : ∀ (k m m' : Nat) (a b : List UInt8), m < 256 ^ k → m' < 256 ^ k → ¬ m = m' → Op.bytesLess (beN k m ++ a) (beN k m' ++ b) = decide (m < m')
  | 0, m, m', a, b, h, h', hne => by simp at h h'; omega
  | k + 1, m, m', a, b, h, h', hne => by
    rw [Nat.pow_succ] at h h'
    rw [beN, beN, List.append_assoc, List.append_assoc]
    have h1 : m / 256 < 256 ^ k := Nat.div_lt_of_lt_mul (by omega)
    have h2 : m' / 256 < 256 ^ k := Nat.div_lt_of_lt_mul (by omega)
    by_cases hd : m / 256 = m' / 256
    · rw [hd, bl_pre]
      have hm := Nat.mod_lt m (show 256 > 0 by decide)
      have hm' := Nat.mod_lt m' (show 256 > 0 by decide)
      have hr : ¬ m % 256 = m' % 256 := by omega
      show Op.bytesLess (UInt8.ofNat (m % 256) :: a) (UInt8.ofNat (m' % 256) :: b) = _
      rw [bl_head _ _ (u8_ne hm hm' hr), u8_nat hm, u8_nat hm']
      exact decide_eq_decide.2 (by omega)
    · rw [bl_beN k _ _ _ _ h1 h2 hd]
      exact decide_eq_decide.2 (by omega)
theorem u8_pos {x : UInt8} (h : ¬ x = 0) : 0 < x.toNat := by
  rcases Nat.eq_zero_or_pos x.toNat with h1 | h1
  · exact absurd (UInt8.toNat_inj.1 (by simpa using h1)) h
  · exact h1
theorem bl_esc : ∀ (s s' a b : List UInt8), ¬ s = s' → Op.bytesLess (escB s ++ 0 :: 1 :: a) (escB s' ++ 0 :: 1 :: b) = Op.bytesLess s s'
  | [], [], _, _, h => absurd rfl h
  | [], y :: s', a, b, _ => by
    rw [escB, escB]
    by_cases hy : y = 0
    · rw [if_pos hy]
      show Op.bytesLess ([0] ++ (1 :: a)) ([0] ++ (255 :: (escB s' ++ 0 :: 1 :: b))) = _
      rw [bl_pre, bl_head _ _ (by decide)]
      rfl
    · rw [if_neg hy]
      show Op.bytesLess (0 :: 1 :: a) (y :: (escB s' ++ 0 :: 1 :: b)) = _
      rw [bl_head _ _ (fun e => hy e.symm)]
      exact decide_eq_true (u8_pos hy)
  | x :: s, [], a, b, _ => by
    rw [escB, escB]
    by_cases hx : x = 0
    · rw [if_pos hx]
      show Op.bytesLess ([0] ++ (255 :: (escB s ++ 0 :: 1 :: a))) ([0] ++ (1 :: b)) = _
      rw [bl_pre, bl_head _ _ (by decide)]
      rfl
    · rw [if_neg hx]
      show Op.bytesLess (x :: (escB s ++ 0 :: 1 :: a)) (0 :: 1 :: b) = _
      rw [bl_head _ _ hx]
      exact decide_eq_false (by simp)
  | x :: s, y :: s', a, b, h => by
    by_cases hxy : x = y
    · subst hxy
      have hs : ¬ s = s' := fun e => h (by rw [e])
      have ih := bl_esc s s' a b hs
      have hr : Op.bytesLess (x :: s) (x :: s') = Op.bytesLess s s' := bl_pre [x] s s'
      rw [escB, escB, hr, ← ih]
      by_cases hx : x = 0
      · rw [if_pos hx, if_pos hx]
        exact bl_pre [0, 255] _ _
      · rw [if_neg hx, if_neg hx]
        exact bl_pre [x] _ _
    · rw [escB, escB, bl_head s s' hxy]
      by_cases hx : x = 0
      · subst hx
        rw [if_pos rfl, if_neg (fun e => hxy e.symm)]
        exact bl_head _ _ hxy
      · by_cases hy : y = 0
        · subst hy
          rw [if_neg hx, if_pos rfl]
          exact bl_head _ _ hxy
        · rw [if_neg hx, if_neg hy]
          exact bl_head _ _ hxy
theorem va_less {x y : Va3} (hx : VaGood x.1 x.2.1 x.2.2) (hy : VaGood y.1 y.2.1 y.2.2) (h : sameV x.1 x.2.1 x.2.2 y.1 y.2.1 y.2.2 = false) (a b : List UInt8) :
    Op.bytesLess (vaB x ++ a) (vaB y ++ b) = lessV x.1 x.2.1 x.2.2 y.1 y.2.1 y.2.2 := by
  obtain ⟨k, n, s⟩ := x
  obtain ⟨k', n', s'⟩ := y
  dsimp only at hx hy h ⊢
  have hne : ¬ (k = k' ∧ n = n' ∧ s = s') := of_decide_eq_false h
  unfold lessV vaB
  dsimp only
  by_cases hk : k = k'
  · subst hk
    rw [if_pos rfl]
    rcases hx with ⟨rfl, h1, h2⟩ | ⟨rfl, h1, h2⟩ | ⟨rfl, h1, h2⟩ | ⟨rfl, h1, h2⟩
    · rcases hy with ⟨_, h3, h4⟩ | ⟨h5, _⟩ | ⟨h5, _⟩ | ⟨h5, _⟩ <;> try (exact absurd h5 (by decide))
      exact absurd ⟨rfl, by rw [h1, h3], by rw [str_nil h2, str_nil h4]⟩ hne
    · rcases hy with ⟨h5, _⟩ | ⟨_, h3, h4⟩ | ⟨h5, _⟩ | ⟨h5, _⟩ <;> try (exact absurd h5 (by decide))
      have hn : ¬ n = n' := fun e => hne ⟨rfl, e, by rw [str_nil h2, str_nil h4]⟩
      rw [if_neg hn]
      show Op.bytesLess ([2] ++ (UInt8.ofNat n.toNat :: a)) ([2] ++ (UInt8.ofNat n'.toNat :: b)) = _
      have e1 : n.toNat < 256 := by omega
      have e2 : n'.toNat < 256 := by omega
      rw [bl_pre, bl_head _ _ (u8_ne e1 e2 (by omega)), u8_nat e1, u8_nat e2]
      exact decide_eq_decide.2 (by omega)
    · rcases hy with ⟨h5, _⟩ | ⟨h5, _⟩ | ⟨_, h3, h4⟩ | ⟨h5, _⟩ <;> try (exact absurd h5 (by decide))
      have hn : ¬ n = n' := fun e => hne ⟨rfl, e, by rw [str_nil h2, str_nil h4]⟩
      rw [if_neg hn]
      show Op.bytesLess ([3] ++ (beN 8 (n + 4611686018427387904).toNat ++ a)) ([3] ++ (beN 8 (n' + 4611686018427387904).toNat ++ b)) = _
      rw [bl_pre, bl_beN 8 _ _ _ _ (by omega) (by omega) (by omega)]
      exact decide_eq_decide.2 (by omega)
    · rcases hy with ⟨h5, _⟩ | ⟨h5, _⟩ | ⟨h5, _⟩ | ⟨_, h3, h4⟩ <;> try (exact absurd h5 (by decide))
      rw [if_pos (h1.trans h3.symm)]
      have hs : ¬ s.data.toList = s'.data.toList := fun e => hne ⟨rfl, h1.trans h3.symm, str_eq e⟩
      show Op.bytesLess ([4] ++ ((escB s.data.toList ++ [0, 1]) ++ a)) ([4] ++ ((escB s'.data.toList ++ [0, 1]) ++ b)) = _
      rw [bl_pre, List.append_assoc, List.append_assoc]
      have h6 := bl_esc s.data.toList s'.data.toList a b hs
      simp only [ByteArray.toList_eq]
      exact h6
  · rw [if_neg hk]
    rcases hx with ⟨rfl, _⟩ | ⟨rfl, _⟩ | ⟨rfl, _⟩ | ⟨rfl, _⟩ <;> rcases hy with ⟨rfl, _⟩ | ⟨rfl, _⟩ | ⟨rfl, _⟩ | ⟨rfl, _⟩ <;> first | exact absurd rfl hk | (exact bl_head _ _ (by decide))
theorem vaB_some (x : Va3) : ∃ c r, vaB x = c :: r := by
  unfold vaB
  split
  · exact ⟨_, _, rfl⟩
  · split
    · exact ⟨_, _, rfl⟩
    · split <;> exact ⟨_, _, rfl⟩
theorem tup_less : ∀ {L M : List Va3}, (∀ x ∈ L, VaGood x.1 x.2.1 x.2.2) → (∀ x ∈ M, VaGood x.1 x.2.1 x.2.2) → Op.bytesLess (tupB L) (tupB M) = tupLess L M
  | [], [], _, _ => rfl
  | [], y :: M, _, _ => by
    obtain ⟨c, r, hc⟩ := vaB_some y
    rw [tupLess]
    show Op.bytesLess [] (vaB y ++ tupB M) = _
    rw [hc]
    rfl
  | x :: L, [], _, _ => by
    rw [tupLess]
    show Op.bytesLess _ [] = _
    cases tupB (x :: L) <;> rfl
  | x :: L, y :: M, hL, hM => by
    rw [tupLess]
    show Op.bytesLess (vaB x ++ tupB L) (vaB y ++ tupB M) = _
    rcases hs : sameV x.1 x.2.1 x.2.2 y.1 y.2.1 y.2.2 with _ | _
    · rw [if_neg (by decide)]
      exact va_less (hL x (by simp)) (hM y (by simp)) hs _ _
    · rw [if_pos rfl]
      have h1 := of_decide_eq_true hs
      have h2 : x = y := by
        obtain ⟨a, b, c⟩ := x
        obtain ⟨a', b', c'⟩ := y
        obtain ⟨rfl, rfl, rfl⟩ := h1
        rfl
      rw [h2, bl_pre]
      exact tup_less (fun z hz => hL z (by simp [hz])) (fun z hz => hM z (by simp [hz]))
theorem bl_tri : ∀ (a b : List UInt8), Op.bytesLess a b = false → Op.bytesLess b a = false → a = b
  | [], [], _, _ => rfl
  | [], y :: b, h, _ => by cases h
  | x :: a, [], _, h => by cases h
  | x :: a, y :: b, h, h' => by
    by_cases hxy : x = y
    · subst hxy
      rw [show x :: a = [x] ++ a from rfl, show x :: b = [x] ++ b from rfl, bl_pre] at h h'
      rw [bl_tri a b h h']
    · rw [bl_head _ _ hxy] at h
      rw [bl_head _ _ (fun e => hxy e.symm)] at h'
      have h1 := of_decide_eq_false h
      have h2 := of_decide_eq_false h'
      exact absurd (UInt8.toNat_inj.1 (by omega)) hxy
theorem lessV_or {x y : Va3} (h : sameV x.1 x.2.1 x.2.2 y.1 y.2.1 y.2.2 = false) : lessV x.1 x.2.1 x.2.2 y.1 y.2.1 y.2.2 = !lessV y.1 y.2.1 y.2.2 x.1 x.2.1 x.2.2 := by
  obtain ⟨k, n, s⟩ := x
  obtain ⟨k', n', s'⟩ := y
  dsimp only at h ⊢
  have hne : ¬ (k = k' ∧ n = n' ∧ s = s') := of_decide_eq_false h
  unfold lessV
  by_cases hk : k = k'
  · subst hk
    rw [if_pos rfl, if_pos rfl]
    by_cases hn : n = n'
    · subst hn
      rw [if_pos rfl, if_pos rfl]
      rcases h1 : Op.bytesLess s.toList s'.toList with _ | _
      · rcases h2 : Op.bytesLess s'.toList s.toList with _ | _
        · have h3 := bl_tri _ _ h1 h2
          simp only [ByteArray.toList_eq] at h3
          exact absurd ⟨rfl, rfl, str_eq h3⟩ hne
        · rfl
      · rcases h2 : Op.bytesLess s'.toList s.toList with _ | _
        · rfl
        · exact absurd (h1.symm.trans (bl_asym _ _ h2)) (by decide)
    · rw [if_neg hn, if_neg (fun e => hn e.symm)]
      by_cases h1 : n < n'
      · rw [decide_eq_true h1, decide_eq_false (by omega)]; rfl
      · rw [decide_eq_false h1, decide_eq_true (by omega)]; rfl
  · rw [if_neg hk, if_neg (fun e => hk e.symm)]
    by_cases h1 : k < k'
    · rw [decide_eq_true h1, decide_eq_false (by omega)]; rfl
    · rw [decide_eq_false h1, decide_eq_true (by omega)]; rfl
where
  bl_asym : ∀ (a b : List UInt8), Op.bytesLess a b = true → Op.bytesLess b a = false
    | _, [], h => by simp [Op.bytesLess] at h
    | [], y :: b, _ => rfl
    | x :: a, y :: b, h => by
      by_cases hxy : x = y
      · subst hxy
        rw [show x :: a = [x] ++ a from rfl, show x :: b = [x] ++ b from rfl, bl_pre] at h ⊢
        exact bl_asym a b h
      · rw [bl_head _ _ hxy] at h
        rw [bl_head _ _ (fun e => hxy e.symm)]
        have h1 := of_decide_eq_true h
        exact decide_eq_false (by omega)
theorem tup_tri : ∀ {L M : List Va3}, tupLess L M = false → tupLess M L = false → L = M
  | [], [], _, _ => rfl
  | [], y :: M, h, _ => by rw [tupLess] at h; exact absurd (of_decide_eq_false h) (by simp)
  | x :: L, [], _, h => by rw [tupLess] at h; exact absurd (of_decide_eq_false h) (by simp)
  | x :: L, y :: M, h, h' => by
    rw [tupLess] at h h'
    rcases hs : sameV x.1 x.2.1 x.2.2 y.1 y.2.1 y.2.2 with _ | _
    · have hs' : sameV y.1 y.2.1 y.2.2 x.1 x.2.1 x.2.2 = false := by
        unfold sameV at hs ⊢
        have h1 := of_decide_eq_false hs
        exact decide_eq_false fun e => h1 ⟨e.1.symm, e.2.1.symm, e.2.2.symm⟩
      rw [hs, if_neg (by decide)] at h
      rw [hs', if_neg (by decide)] at h'
      have h1 := lessV_or hs
      rw [h, h'] at h1
      cases h1
    · have h1 := of_decide_eq_true hs
      have h2 : x = y := by
        obtain ⟨a, b, c⟩ := x
        obtain ⟨a', b', c'⟩ := y
        obtain ⟨rfl, rfl, rfl⟩ := h1
        rfl
      subst h2
      rw [hs, if_pos rfl] at h h'
      rw [tup_tri h h']
theorem tup_inj {L M : List Va3} (hL : ∀ x ∈ L, VaGood x.1 x.2.1 x.2.2) (hM : ∀ x ∈ M, VaGood x.1 x.2.1 x.2.2) (h : tupB L = tupB M) : L = M :=
  tup_tri (by rw [← tup_less hL hM, h, bl_self]) (by rw [← tup_less hM hL, h, bl_self])
theorem escB_le : ∀ (s : List UInt8), (escB s).length ≤ 2 * s.length
  | [] => by simp [escB]
  | b :: s => by
    have := escB_le s
    rw [escB]
    split <;> simp <;> omega
theorem vaB_le {x : Va3} (h : VaGood x.1 x.2.1 x.2.2) : (vaB x).length ≤ 43 := by
  obtain ⟨k, n, s⟩ := x
  dsimp only at h
  unfold vaB
  dsimp only
  have h1 := escB_le s.data.toList
  have h2 : s.data.toList.length = s.size := by simp
  split
  · simp
  · split
    · simp
    · split
      · simp [beN_length]
      · simp
        rcases h with h | h | h | h <;> omega
theorem tupB_le {L : List Va3} (h : TupGood L) : (tupB L).length ≤ 172 := by
  have : ∀ L : List Va3, (∀ x ∈ L, VaGood x.1 x.2.1 x.2.2) → (tupB L).length ≤ 43 * L.length := by
    intro L
    induction L with
    | nil => intro _; simp [tupB]
    | cons x L ih =>
      intro hL
      have h1 := ih fun z hz => hL z (by simp [hz])
      have h2 := vaB_le (hL x (by simp))
      show (vaB x ++ tupB L).length ≤ _
      rw [List.length_append, List.length_cons]
      omega
  have h1 := this L h.1
  have h2 := h.2
  omega
theorem tupB_append (L M : List Va3) : tupB (L ++ M) = tupB L ++ tupB M := by unfold tupB; rw [List.flatMap_append]
def rdT : List UInt8 → Option (List UInt8 × List UInt8)
  | a :: b :: r => if a = 0 then (if b = 1 then some ([], r) else (rdT r).map fun p => (0 :: p.1, p.2)) else (rdT (b :: r)).map fun p => (a :: p.1, p.2)
  | _ => none
termination_by l => l.length
theorem rdT_esc : ∀ (s r : List UInt8), rdT (escB s ++ 0 :: 1 :: r) = some (s, r)
  | [], r => by rw [escB]; show rdT (0 :: 1 :: r) = _; rw [rdT, if_pos rfl, if_pos rfl]
  | b :: s, r => by
    have ih := rdT_esc s r
    rw [escB]
    by_cases hb : b = 0
    · rw [if_pos hb]
      show rdT (0 :: 255 :: (escB s ++ 0 :: 1 :: r)) = _
      rw [rdT, if_pos rfl, if_neg (by decide), ih, hb]
      rfl
    · rw [if_neg hb]
      show rdT (b :: (escB s ++ 0 :: 1 :: r)) = _
      obtain ⟨c, t, hc⟩ : ∃ c t, escB s ++ 0 :: 1 :: r = c :: t := by
        rcases h : escB s ++ 0 :: 1 :: r with _ | ⟨c, t⟩
        · simp at h
        · exact ⟨c, t, rfl⟩
      rw [hc] at ih ⊢
      rw [rdT, if_neg hb, ih]
      rfl
def beV : List UInt8 → Nat
  | l => l.foldl (fun n b => n * 256 + b.toNat) 0
theorem beV_snoc (l : List UInt8) (b : UInt8) : beV (l ++ [b]) = beV l * 256 + b.toNat := by unfold beV; rw [List.foldl_append]; rfl
theorem beV_be : ∀ (k m : Nat), m < 256 ^ k → beV (beN k m) = m
  | 0, m, h => by simp at h; subst h; rfl
  | k + 1, m, h => by
    rw [Nat.pow_succ] at h
    have h1 : m / 256 < 256 ^ k := Nat.div_lt_of_lt_mul (by omega)
    rw [beN, beV_snoc, beV_be k _ h1, u8_nat (Nat.mod_lt _ (by decide))]
    omega
def RdSays (b : List UInt8) (at_ : Nat) (x : Va3) (next : Nat) : Prop := at_ < next ∧ ∀ (y : Va3) (r : List UInt8), VaGood y.1 y.2.1 y.2.2 → b.drop at_ = vaB y ++ r → x = y ∧ next = at_ + (vaB y).length
def TupIs (b : List UInt8) (L : List Va3) : Prop := TupGood L ∧ tupB L = b
theorem TupIs.one {b : List UInt8} {L M : List Va3} (h : TupIs b L) (h' : TupIs b M) : L = M := tup_inj h.1.1 h'.1.1 (h.2.trans h'.2.symm)
def RdTup (b : List UInt8) (L : List Va3) (at_ : Nat) : Prop := ∀ M, TupIs b M → ∃ S, M = L ++ S ∧ at_ ≤ b.length ∧ b.drop at_ = tupB S
theorem RdTup.start (b : List UInt8) : RdTup b [] 0 := fun M hM => ⟨M, rfl, Nat.zero_le _, hM.2.symm⟩
theorem RdTup.next {b : List UInt8} {L : List Va3} {at_ next : Nat} {x : Va3} (h : RdTup b L at_) (hlt : at_ < b.length) (hr : RdSays b at_ x next) : RdTup b (L ++ [x]) next := by
  intro M hM
  obtain ⟨S, hS, hle, hd⟩ := h M hM
  rcases S with _ | ⟨y, S⟩
  · have h1 : (b.drop at_).length = 0 := by rw [hd]; rfl
    rw [List.length_drop] at h1
    omega
  · have hy : VaGood y.1 y.2.1 y.2.2 := hM.1.1 y (by rw [hS]; simp)
    obtain ⟨hx, hn⟩ := hr.2 y (tupB S) hy hd
    refine ⟨S, by rw [hS, hx]; simp, ?_, ?_⟩
    · have h1 : (b.drop at_).length = (vaB y).length + (tupB S).length := by rw [hd]; show (vaB y ++ tupB S).length = _; rw [List.length_append]
      rw [List.length_drop] at h1
      omega
    · rw [hn, ← List.drop_drop, hd]
      show (vaB y ++ tupB S).drop _ = _
      rw [List.drop_left]
theorem RdTup.none {b : List UInt8} {L : List Va3} {at_ : Nat} (h : RdTup b L at_) (he : ¬ (at_ < b.length ∧ L.length ≤ 4)) (hn : ¬ (at_ = b.length ∧ TupGood L ∧ tupB L = b)) : ∀ M, ¬ TupIs b M := by
  intro M hM
  obtain ⟨S, hS, hle, hd⟩ := h M hM
  by_cases h4 : L.length ≤ 4
  · have h1 : at_ = b.length := by omega
    rw [h1, List.drop_length] at hd
    rcases S with _ | ⟨y, S⟩
    · rw [List.append_nil] at hS
      subst hS
      exact hn ⟨h1, hM.1, hM.2⟩
    · obtain ⟨c, r, hc⟩ := vaB_some y
      have h2 : tupB (y :: S) = c :: (r ++ tupB S) := by show vaB y ++ tupB S = _; rw [hc]; rfl
      rw [h2] at hd
      cases hd
  · have h1 := hM.1.2
    rw [hS, List.length_append] at h1
    omega
end
section
open Go.ChangeShapes Go.WideShapes Go.RowKit
def TextSays (e : Ending) (l : List UInt8) : Prop := ∃ s : ByteArray, e = .returned (.string s) ∧ s.data.toList = l
end
section
open Go.ChangeShapes Go.WideShapes Go.ChangeAt Go.RowKit
open Go.Lib (byteCells byteCells_length byteCells_append)

abbrev BOwn (w : World) (base : Nat) (v : Value) (l : List UInt8) : Prop := w.ownsRow base 5 1 v l.length (byteCells l)
theorem add_plain (b o j : Nat) : (⟨b, o, none⟩ : Addr).add j = ⟨b, o + j, none⟩ := by unfold Addr.add; split <;> simp_all
theorem own_block {w : World} {base : Nat} {e : TypeId} {size n : Nat} {v : Value} {xs : List Value} (h : w.ownsRow base e size v n xs) : ∀ k, v.ownBlock = some k → base ≤ k := by
  intro k hk
  rcases h.2 with ⟨rfl, _⟩ | ⟨g, cap, cur, rfl, hg, _⟩
  · cases hk
  · cases hk; exact hg
theorem below_app {a w w' : World} {B : Nat} {v : Value} (hb : Below B a w) (hs : B ≤ w.heap.size) (hv : ∀ k, v.ownBlock = some k → B ≤ k) (hg : w.grownBy w' v.ownBlock) : Below B a w' := hb.grown hg hs hv
theorem bown_new (w : World) {base g : Nat} {l : List UInt8} {cs : Array Value} (hg : w.heap.size = g) (hc : cs = (byteCells l).toArray) (hb : base ≤ g) (hl : l.length ≤ 1099511627776) : BOwn (w.alloc (.cells cs 5)) base (.slice (some ⟨g, 0, none⟩) l.length l.length) l := by
  subst hg hc
  refine ⟨by simp [byteCells_length], .inr ⟨_, _, (byteCells l).toArray, rfl, hb, heap_alloc_new w _, Nat.le_refl _, by unfold maxLen; omega, by simp [byteCells_length], ?_⟩⟩
  rw [List.take_of_length_le (by simp [byteCells_length])]
theorem bown_cell {w : World} {base g n c : Nat} {l : List UInt8} (h : w.ownsRow base 5 1 (.slice (some ⟨g, 0, none⟩) n c) n (byteCells l)) {i : Nat} {b : UInt8} (hi : l[i]? = some b) : w.cell? ⟨g, i, none⟩ = some (.int .u8 (b.toNat : Int)) := by
  refine own_cellV h ?_
  unfold byteCells
  rw [List.getElem?_map, hi]
  rfl
theorem bown_text {w : World} {base : Nat} {v : Value} {l : List UInt8} (h : BOwn w base v l) : (convert 22 9 v).run Tryd.prog w = .ok (.string ⟨l.toArray⟩) w := by
  rcases owns_forms h with ⟨rfl, h0⟩ | ⟨g, cap, rfl⟩
  · have hl : l = [] := List.length_eq_zero_iff.1 h0
    subst hl
    exact run_convert_bytes_nil w 22 5 Tryd.underlying22 Tryd.underlying5 0 0 9 Tryd.underlying9
  · refine run_convert_bytes_back w 22 9 5 ⟨g, 0, none⟩ cap l Tryd.underlying22 Tryd.underlying5 Tryd.underlying9 ?_
    intro j hj
    have h1 := bown_cell h (List.getElem?_eq_getElem hj)
    rw [add_plain]
    simpa using h1
theorem bcell_one {l : List UInt8} : ∀ u ∈ byteCells l, u.oneCell' = true := by
  intro u hu
  unfold byteCells at hu
  rw [List.mem_map] at hu
  obtain ⟨b, _, rfl⟩ := hu
  rfl
theorem infoByte : (Tryd.prog.info? 5).map (fun i => (i.zero, i.size, i.bytes)) = some (some (.int .u8 0), 1, 1) := by kernel_rfl
theorem bnews (w : World) (g : Nat) (hg : w.heap.size = g) (l : List UInt8) {cs : Array Value} (hc : cs = (byteCells l).toArray) : ∀ j u, (byteCells l)[j]? = some u → (w.alloc (.cells cs 5)).cell? ((⟨g, 0, none⟩ : Addr).add j) = some u := by
  intro j u hj
  subst hg hc
  have h1 := (box_of w (byteCells l).toArray 5).cell j
  have h2 : (byteCells l).toArray[j]? = some u := by simpa using hj
  rw [h2] at h1
  rw [add_plain]
  simpa using h1
theorem step_appB {ops : Array Oper} {o : Oper} {a : Act} (w : World) {K : Act → World → Prop} {Q : Exit → Act → World → Prop} {E : Prop} (hg : o.guard = none) (s x : Operand)
    (ho : o.op = .call { callee := .builtin .append, args := #[s, x], argTypes := #[22, 22] })
    (base : Nat) (v : Value) (l : List UInt8) (hs : a.eval s = v) (hown : BOwn w base v l)
    (ad : Addr) (c : Nat) (news : List UInt8) (hx : a.eval x = .slice (some ad) news.length c) (hnews : ∀ j u, (byteCells news)[j]? = some u → w.cell? (ad.add j) = some u)
    (hle : l.length + news.length ≤ 1099511627776) (hbase : base ≤ w.heap.size)
    (h : ∀ v' w', BOwn w' base v' (l ++ news) → (∀ a' : World, ∀ B : Nat, B ≤ base → Below B a' w → Below B a' w') → (v' = .slice none 0 0 ↔ v = .slice none 0 0 ∧ news.length = 0) → K (a.put o.dst v') w') :
    if Region.wanted o (yielded ops a.tmps) = true then Oper.wp Tryd.prog o a w K Q else E := by
  obtain ⟨i0, hi, hz0, hz1, hz2⟩ := info_parts infoByte
  refine step_append_own w hg s x 22 ho base 5 i0 (.int .u8 0) 1 1 Tryd.underlying22 hi hz0 hz1 hz2 (by rfl) (by decide) v l.length (byteCells l) hs hown ad news.length c (byteCells news) hx (by simp [byteCells_length]) hnews bcell_one (by unfold maxLen; omega) (by omega) hbase ?_
  intro v' w' hown' hgrow hnil
  refine h v' w' ?_ (fun a' B hB hb => below_app hb (Nat.le_trans hB hbase) (fun k hk => Nat.le_trans hB (own_block hown k hk)) hgrow) hnil
  unfold BOwn
  rw [byteCells_append, List.length_append]
  exact hown'
theorem list_appB {ops : Array Oper} {rest : List Oper} {o : Oper} {a : Act} (w : World) {Q : Exit → Act → World → Prop} (hg : o.guard = none) (s x : Operand)
    (ho : o.op = .call { callee := .builtin .append, args := #[s, x], argTypes := #[22, 22] })
    (base : Nat) (v : Value) (l : List UInt8) (hs : a.eval s = v) (hown : BOwn w base v l)
    (ad : Addr) (c : Nat) (news : List UInt8) (hx : a.eval x = .slice (some ad) news.length c) (hnews : ∀ j u, (byteCells news)[j]? = some u → w.cell? (ad.add j) = some u)
    (hle : l.length + news.length ≤ 1099511627776) (hbase : base ≤ w.heap.size)
    (h : ∀ v' w', BOwn w' base v' (l ++ news) → (∀ a' : World, ∀ B : Nat, B ≤ base → Below B a' w → Below B a' w') → (v' = .slice none 0 0 ↔ v = .slice none 0 0 ∧ news.length = 0) → wpList Tryd.prog ops Q rest (a.put o.dst v') w') : wpList Tryd.prog ops Q (o :: rest) a w := by
  obtain ⟨i0, hi, hz0, hz1, hz2⟩ := info_parts infoByte
  refine wpList_append_own w hg s x 22 ho base 5 i0 (.int .u8 0) 1 1 Tryd.underlying22 hi hz0 hz1 hz2 (by rfl) (by decide) v l.length (byteCells l) hs hown ad news.length c (byteCells news) hx (by simp [byteCells_length]) hnews bcell_one (by unfold maxLen; omega) (by omega) hbase ?_
  intro v' w' hown' hgrow hnil
  refine h v' w' ?_ (fun a' B hB hb => below_app hb (Nat.le_trans hB hbase) (fun k hk => Nat.le_trans hB (own_block hown k hk)) hgrow) hnil
  unfold BOwn
  rw [byteCells_append, List.length_append]
  exact hown'
open Go.Lib (byteCells byteCells_length byteCells_append)

def BysAt (w : World) (a : Option Addr) (n : Nat) (l : List UInt8) : Prop :=
  l.length = n ∧ n ≤ 2097152 ∧ (n = 0 ∨ ∃ b o, a = some ⟨b, o, none⟩ ∧ ∀ i x, l[i]? = some x → w.cell? ⟨b, o + i, none⟩ = some (.int .u8 (x.toNat : Int)))
theorem BysAt.below {w w' : World} {a : Option Addr} {n : Nat} {l : List UInt8} (h : BysAt w a n l) {B : Nat} (hb : Below B w w') (hB : w.heap.size ≤ B) : BysAt w' a n l := by
  obtain ⟨h1, h2, h3 | ⟨b, o, h3, h4⟩⟩ := h
  · exact ⟨h1, h2, .inl h3⟩
  · refine ⟨h1, h2, .inr ⟨b, o, h3, fun i x hi => ?_⟩⟩
    have h5 := h4 i x hi
    exact (hb.cell (Nat.lt_of_lt_of_le (World.block_lt_of_cell? w _ h5) hB)).trans h5
theorem BysAt.set {w : World} {b o n : Nat} {l : List UInt8} {q : Addr} (h : BysAt w (some ⟨b, o, none⟩) n l) (hq : ¬ b = q.block) (v : Value) : BysAt (w.setCell q v) (some ⟨b, o, none⟩) n l := by
  obtain ⟨h1, h2, h3 | ⟨b', o', h3, h4⟩⟩ := h
  · exact ⟨h1, h2, .inl h3⟩
  · cases h3
    refine ⟨h1, h2, .inr ⟨b, o, rfl, fun i x hi => ?_⟩⟩
    rw [World.cell?_of_block (w := w) (Below.heap_setCell _ _ _ _ hq)]
    exact h4 i x hi
theorem bys_text {w : World} {a : Option Addr} {n c : Nat} {l : List UInt8} (h : BysAt w a n l) : (convert 22 9 (.slice a n c)).run Tryd.prog w = .ok (.string ⟨l.toArray⟩) w := by
  obtain ⟨rfl, _, h0 | ⟨b, o, rfl, h4⟩⟩ := h
  · have hl : l = [] := List.length_eq_zero_iff.1 h0
    subst hl
    cases a with
    | none => exact run_convert_bytes_nil w 22 5 Tryd.underlying22 Tryd.underlying5 0 c 9 Tryd.underlying9
    | some ad => exact run_convert_bytes_back w 22 9 5 ad c [] Tryd.underlying22 Tryd.underlying5 Tryd.underlying9 (fun j hj => by simp at hj)
  · refine run_convert_bytes_back w 22 9 5 ⟨b, o, none⟩ c l Tryd.underlying22 Tryd.underlying5 Tryd.underlying9 ?_
    intro j hj
    rw [add_plain]
    exact h4 j _ (List.getElem?_eq_getElem hj)
theorem dropB {l : List UInt8} {j : Nat} {x : UInt8} (h : l[j]? = some x) : l.drop j = x :: l.drop (j + 1) := by
  rw [List.drop_eq_getElem_cons (List.getElem?_eq_some_iff.1 h).1, (List.getElem?_eq_some_iff.1 h).2]
def RdT (l : List UInt8) (i j : Nat) (o : List UInt8) : Prop := o.length ≤ j ∧ rdT (l.drop i) = (rdT (l.drop j)).map fun p => (o ++ p.1, p.2)
theorem RdT.start (l : List UInt8) (i : Nat) : RdT l i i [] := ⟨Nat.zero_le _, by rcases h : rdT (l.drop i) with _ | ⟨a, b⟩ <;> rfl⟩
theorem RdT.done {l : List UInt8} {i j : Nat} {o : List UInt8} (h : RdT l i j o) (h0 : l[j]? = some 0) (h1 : l[j + 1]? = some 1) : rdT (l.drop i) = some (o, l.drop (j + 2)) := by
  rw [h.2, dropB h0, dropB h1, rdT, if_pos rfl, if_pos rfl]
  simp
theorem RdT.two {l : List UInt8} {i j : Nat} {o : List UInt8} {y : UInt8} (h : RdT l i j o) (h0 : l[j]? = some 0) (h1 : l[j + 1]? = some y) (hy : ¬ y = 1) : RdT l i (j + 2) (o ++ [0]) := by
  refine ⟨by rw [List.length_append, List.length_singleton]; have := h.1; omega, ?_⟩
  rw [h.2, dropB h0, dropB h1, rdT, if_pos rfl, if_neg hy]
  rcases rdT (l.drop (j + 2)) with _ | ⟨a, b⟩
  · rfl
  · simp
theorem RdT.one {l : List UInt8} {i j : Nat} {o : List UInt8} {x y : UInt8} (h : RdT l i j o) (h0 : l[j]? = some x) (h1 : l[j + 1]? = some y) (hx : ¬ x = 0) : RdT l i (j + 1) (o ++ [x]) := by
  refine ⟨by rw [List.length_append, List.length_singleton]; have := h.1; omega, ?_⟩
  rw [h.2, dropB h0, dropB h1, rdT, if_neg hx, ← dropB h1]
  rcases rdT (l.drop (j + 1)) with _ | ⟨a, b⟩
  · rfl
  · simp
theorem RdT.none {l : List UInt8} {i j : Nat} {o : List UInt8} (h : RdT l i j o) (hj : ¬ j + 1 < l.length) : rdT (l.drop i) = none := by
  rw [h.2]
  have h1 : (l.drop j).length ≤ 1 := by rw [List.length_drop]; omega
  generalize l.drop j = d at h1 ⊢
  rcases d with _ | ⟨x, _ | ⟨y, r⟩⟩
  · rw [rdT]; rfl
    intro a b r e; cases e
  · rw [rdT]; rfl
    intro a b r e; cases e
  · simp at h1
def TxAns (l : List UInt8) (i : Nat) (e : Ending) : Prop := ∃ (s : ByteArray) (next : Nat), e = .returned (.tuple #[.string s, .int .i64 (next : Int)]) ∧ i < next ∧ next ≤ l.length + 1 ∧ s.size ≤ l.length ∧ ∀ t r, rdT (l.drop i) = some (t, r) → s.data.toList = t ∧ next + r.length = l.length
end
section
open Go.ChangeShapes Go.WideShapes Go.ChangeAt Go.RowKit Go.Joins
inductive In (w : World) : Value → Cel → Prop
  | i (x : Int) : In w (.int .i64 x) (.i x)
  | b (x : Bool) : In w (.bool x) (.b x)
  | s (x : ByteArray) (hx : x.size ≤ 9223372036854775807) : In w (.string x) (.s x)
  | l (a : Option Addr) (T : TypeId) (k n c : Nat) (cs : List Cel) (vs : List Value) (h1 : vs.length = n * k) (h2 : cs.length = n * k) (hn : n ≤ 9223372036854775807)
      (h3 : n = 0 ∨ ∃ b o, a = some ⟨b, o, none⟩ ∧ ∀ j, j < n * k → w.cell? ⟨b, o + j, none⟩ = vs[j]?) (h4 : ∀ (j : Nat) (v : Value) (c : Cel), vs[j]? = some v → cs[j]? = some c → In w v c) : In w (.slice a n c) (.l T k n cs)
def InL (w : World) (vs : List Value) (cs : List Cel) : Prop := vs.length = cs.length ∧ ∀ (j : Nat) (v : Value) (c : Cel), vs[j]? = some v → cs[j]? = some c → In w v c
theorem In.on {w w' : World} {v : Value} {c : Cel} (h : In w v c) {B : Nat} (hb : Below B w w') (hB : w.heap.size ≤ B) : In w' v c := by
  induction h with
  | i x => exact .i x
  | b x => exact .b x
  | s x hx => exact .s x hx
  | l a T k n c cs vs h1 h2 hn h3 h4 ih =>
    refine .l a T k n c cs vs h1 h2 hn ?_ ih
    rcases h3 with h3 | ⟨b, o, e, g⟩
    · exact .inl h3
    · refine .inr ⟨b, o, e, fun j hj => ?_⟩
      have h5 := g j hj
      have h6 : w.cell? ⟨b, o + j, none⟩ = some (vs[j]'(by omega)) := by rw [h5, List.getElem?_eq_getElem (by omega)]
      rw [hb.cell (show b < B from Nat.lt_of_lt_of_le (World.block_lt_of_cell? w _ h6) hB)]
      exact h5
theorem InL.on {w w' : World} {vs : List Value} {cs : List Cel} (h : InL w vs cs) {B : Nat} (hb : Below B w w') (hB : w.heap.size ≤ B) : InL w' vs cs :=
  ⟨h.1, fun j v c hv hc => (h.2 j v c hv hc).on hb hB⟩
theorem big_mem : ∀ {cs : List Cel} {j : Nat} {c : Cel}, cs[j]? = some c → c.big ≤ bigL cs
  | [], _, _, h => by simp at h
  | d :: cs, 0, c, h => by simp at h; subst h; simp [bigL]
  | d :: cs, j + 1, c, h => by
    have := big_mem (cs := cs) (j := j) (by simpa using h)
    simp only [bigL]; omega
theorem In.at {w : World} {v : Value} {c : Cel} (h : In w v c) (hb : c.big ≤ 2097152) : At false w v c := by
  induction h with
  | i x => exact .i x
  | b x => exact .b x
  | s x hx => exact .s x
  | l a T k n c cs vs h1 h2 hn h3 h4 ih =>
    simp only [Cel.big] at hb
    exact .l a T k n c cs vs h1 h2 (by omega) (fun h => by cases h) h3 fun j v c hv hc => ih j v c hv hc (by have := big_mem hc; omega)
theorem InL.at {w : World} {vs : List Value} {cs : List Cel} (h : InL w vs cs) (hb : bigL cs ≤ 2097152) : AtL false w vs cs :=
  ⟨h.1, fun j v c hv hc => (h.2 j v c hv hc).at (by have := big_mem hc; omega)⟩
theorem InL.nil {w : World} : InL w [] [] := ⟨rfl, fun j v c hv _ => by simp at hv⟩
theorem InL.cons {w : World} {v : Value} {c : Cel} {vs : List Value} {cs : List Cel} (h : In w v c) (hs : InL w vs cs) : InL w (v :: vs) (c :: cs) := by
  refine ⟨by simp [hs.1], fun j v' c' hv hc => ?_⟩
  cases j with
  | zero => simp at hv hc; subst hv hc; exact h
  | succ j => simp at hv hc; exact hs.2 j v' c' hv hc
theorem InL.nilE {w : World} {vs : List Value} (h : InL w vs []) : vs = [] := List.length_eq_zero_iff.1 h.1
theorem InL.consE {w : World} {vs : List Value} {c : Cel} {cs : List Cel} (h : InL w vs (c :: cs)) : ∃ v vs', vs = v :: vs' ∧ In w v c ∧ InL w vs' cs := by
  match vs, h with
  | [], h => have := h.1; simp at this
  | v :: vs', h => exact ⟨v, vs', rfl, h.2 0 v c rfl rfl, ⟨by have := h.1; simpa using this, fun j v' c' hv hc => h.2 (j + 1) v' c' (by simpa using hv) (by simpa using hc)⟩⟩
theorem In.int {w : World} {v : Value} {x : Int} (h : In w v (.i x)) : v = .int .i64 x := by cases h; rfl
theorem In.bool {w : World} {v : Value} {x : Bool} (h : In w v (.b x)) : v = .bool x := by cases h; rfl
theorem In.openL {w : World} {v : Value} {T : TypeId} {k n : Nat} {cs : List Cel} (h : In w v (.l T k n cs)) : ∃ (a : Option Addr) (c : Nat) (vs : List Value), v = .slice a n c ∧ vs.length = n * k ∧ cs.length = n * k ∧ n ≤ 9223372036854775807 ∧
    (n = 0 ∨ ∃ b o, a = some ⟨b, o, none⟩ ∧ ∀ j, j < n * k → w.cell? ⟨b, o + j, none⟩ = vs[j]?) ∧ ∀ (j : Nat) (v : Value) (c : Cel), vs[j]? = some v → cs[j]? = some c → In w v c := by
  cases h with
  | l a T k n c cs vs h1 h2 hn h3 h4 => exact ⟨a, c, vs, rfl, h1, h2, hn, h3, h4⟩
def Ty.flat : Ty → Bool
  | .i => true
  | .b => true
  | _ => false
def Left (w : World) (m : Nat) (l : Int) (e : Ending) (w' : World) : Prop := Below w.heap.size w w' ∧ ((∃ r : Int, e = .returned (.int .i64 r) ∧ (m : Int) ≤ l ∧ r = l - (m : Int)) ∨ (e = .returned (.int .i64 (-1)) ∧ l < (m : Int)))
structure One (w W : World) (A : Array Value) (T : TypeId) : Prop where
  a : Box W w.heap.size A T
  on : Below w.heap.size w W
theorem One.call {w W W' : World} {A : Array Value} {T : TypeId} (h : One w W A T) (hb : Below W.heap.size W W') : One w W' A T := ⟨h.a.below hb h.a.lt, h.on.trans (hb.mono h.on.size)⟩
inductive Flat (P : Program) : TypeId → List Ty → Prop
  | i (t : TypeId) (h : P.underlying t = some (.int .i64)) : Flat P t [.i]
  | b (t : TypeId) (h : P.underlying t = some .bool) : Flat P t [.b]
  | s (t : TypeId) (h : P.underlying t = some .string) : Flat P t [.s]
  | l (t e T : TypeId) (k : Nat) (fs : List Ty) (h : P.underlying t = some (.slice e)) (hk : fs.length = k) (hk0 : 0 < k) (hc : P.cellsOf e = k) (hf : Flat P e fs) : Flat P t [.l T k fs]
  | st (t : TypeId) (Fs : Array Field) (gs : List (List Ty)) (h : P.underlying t = some (.struct Fs)) (hl : gs.length = Fs.size) (hc : P.cellsOf t = gs.flatten.length)
      (ho : ∀ (i : Nat) (f : Field) (g : List Ty), Fs[i]? = some f → gs[i]? = some g → f.offset = (gs.take i).flatten.length ∧ P.cellsOf f.type = g.length) (hf : ∀ (i : Nat) (f : Field) (g : List Ty), Fs[i]? = some f → gs[i]? = some g → Flat P f.type g) : Flat P t gs.flatten
theorem InL.app {w : World} : ∀ {vs : List Value} {cs : List Cel} {vs' : List Value} {cs' : List Cel}, InL w vs cs → InL w vs' cs' → InL w (vs ++ vs') (cs ++ cs')
  | vs, [], _, _, h, h' => by obtain rfl := h.nilE; exact h'
  | vs, c :: cs, _, _, h, h' => by
    obtain ⟨v, vs, rfl, h0, h1⟩ := h.consE
    exact InL.cons h0 (InL.app h1 h')
theorem HasL.mk {c : Cel} {t : Ty} {cs : List Cel} {fs : List Ty} (h : Has c t) (hs : HasL cs fs) : HasL (c :: cs) (t :: fs) := by
  refine ⟨by simp [hs.1], fun j c' t' hc ht => ?_⟩
  cases j with
  | zero => simp at hc ht; subst hc ht; exact h
  | succ j => simp at hc ht; exact hs.2 j c' t' hc ht
theorem HasL.none : HasL [] [] := ⟨rfl, fun j c t hc _ => by simp at hc⟩
theorem HasL.app : ∀ {cs : List Cel} {fs : List Ty} {cs' : List Cel} {fs' : List Ty}, HasL cs fs → HasL cs' fs' → HasL (cs ++ cs') (fs ++ fs')
  | cs, [], _, _, h, h' => by obtain rfl := h.nil; exact h'
  | cs, t :: fs, _, _, h, h' => by
    obtain ⟨c, cs, rfl, h0, h1⟩ := h.cons
    exact HasL.mk h0 (HasL.app h1 h')
inductive WfC : Cel → Prop
  | i (x : Int) (h : (Lit.int .i64 x).wf = true) : WfC (.i x)
  | b (x : Bool) : WfC (.b x)
  | s (x : ByteArray) : WfC (.s x)
  | l (T : TypeId) (k n : Nat) (cs : List Cel) (h : ∀ (j : Nat) (c : Cel), cs[j]? = some c → WfC c) : WfC (.l T k n cs)
def WfL (ds : List Cel) : Prop := ∀ (j : Nat) (c : Cel), ds[j]? = some c → WfC c
theorem WfL.nil : WfL [] := fun j c h => by simp at h
theorem WfL.cons {c : Cel} {ds : List Cel} (h : WfC c) (hs : WfL ds) : WfL (c :: ds) := fun j d hd => by
  cases j with
  | zero => simp at hd; subst hd; exact h
  | succ j => exact hs j d (by simpa using hd)
theorem WfL.app {ds es : List Cel} (h : WfL ds) (h' : WfL es) : WfL (ds ++ es) := fun j c hc => by
  by_cases hj : j < ds.length
  · rw [List.getElem?_append_left hj] at hc; exact h j c hc
  · rw [List.getElem?_append_right (by omega)] at hc; exact h' _ c hc
set_option linter.unusedSimpArgs false
def va3 (r : List Cel) : Va3 := (numC (nthC r 0), numC (nthC r 1), textC (nthC r 2))
def vasD (cs : List Cel) (n : Nat) : List Va3 := (List.range n).map fun i => va3 (row cs 3 i)
end
section
open Go.ChangeShapes Go.WideShapes Go.ChangeAt Go.RowKit
def vaC : List Va3 → List Value
  | [] => []
  | x :: L => .int .i64 x.1 :: .int .i64 x.2.1 :: .string x.2.2 :: vaC L
theorem vaC_length : ∀ L : List Va3, (vaC L).length = L.length * 3
  | [] => rfl
  | x :: L => by rw [vaC]; simp [vaC_length L]; omega
theorem vaC_append : ∀ L M : List Va3, vaC (L ++ M) = vaC L ++ vaC M
  | [], _ => rfl
  | x :: L, M => by
    show vaC (x :: (L ++ M)) = _
    rw [vaC, vaC, vaC_append L M]
    rfl
theorem vaC_at : ∀ {L : List Va3} {i : Nat} {x : Va3}, L[i]? = some x → (vaC L)[i * 3]? = some (.int .i64 x.1) ∧ (vaC L)[i * 3 + 1]? = some (.int .i64 x.2.1) ∧ (vaC L)[i * 3 + 2]? = some (.string x.2.2)
  | [], _, _, h => by simp at h
  | y :: L, 0, x, h => by
    simp at h
    subst h
    exact ⟨rfl, rfl, rfl⟩
  | y :: L, i + 1, x, h => by
    have h1 := vaC_at (L := L) (i := i) (x := x) (by simpa using h)
    rw [vaC, show (i + 1) * 3 = i * 3 + 1 + 1 + 1 by omega]
    exact h1
theorem vaC_one {L : List Va3} : ∀ u ∈ vaC L, u.oneCell' = true := by
  induction L with
  | nil => intro u hu; cases hu
  | cons x L ih =>
    intro u hu
    rw [vaC] at hu
    rcases List.mem_cons.1 hu with rfl | hu
    · rfl
    rcases List.mem_cons.1 hu with rfl | hu
    · rfl
    rcases List.mem_cons.1 hu with rfl | hu
    · rfl
    exact ih u hu
abbrev VOwn (w : World) (base : Nat) (v : Value) (L : List Va3) : Prop := w.ownsRow base 37 3 v L.length (vaC L)
theorem own_vas {w : World} {base : Nat} {v : Value} {L : List Va3} (h : VOwn w base v L) (hn : L.length ≤ 2097152) : ∃ a c, v = .slice a L.length c ∧ L.length ≤ c ∧ VasAt w a L.length L := by
  rcases h.2 with ⟨rfl, h0⟩ | ⟨g, cap, cur, rfl, _, _, hc, _⟩
  · exact ⟨none, 0, by rw [h0], by omega, rfl, hn, .inl h0⟩
  · refine ⟨_, cap, rfl, hc, rfl, hn, .inr ⟨g, 0, rfl, fun i x hi => ?_⟩⟩
    obtain ⟨h1, h2, h3⟩ := vaC_at hi
    rw [Nat.zero_add]
    exact ⟨own_cellV h h1, own_cellV h h2, own_cellV h h3⟩
theorem infoVal : (Tryd.prog.info? 37).map (fun i => (i.zero, i.size, i.bytes)) = some (some (.agg #[.int .i64 0, .int .i64 0, .string ⟨#[]⟩]), 3, 32) := by kernel_rfl
theorem vown_nil (w : World) {base g : Nat} (hg : w.heap.size = g) (hb : base ≤ g) : VOwn (w.alloc (.cells #[] 37)) base (.slice (some ⟨g, 0, none⟩) 0 0) [] := by
  subst hg
  exact ⟨rfl, .inr ⟨_, 0, #[], rfl, hb, heap_alloc_new w _, Nat.le_refl _, by unfold maxLen; omega, rfl, rfl⟩⟩
theorem vnews (w : World) (g : Nat) (hg : w.heap.size = g) (x : Va3) : ∀ j u, (vaC [x])[j]? = some u → (w.alloc (.cells #[.int .i64 x.1, .int .i64 x.2.1, .string x.2.2] 37)).cell? ((⟨g, 0, none⟩ : Addr).add j) = some u := by
  intro j u hj
  subst hg
  rw [add_plain, Nat.zero_add, (box_of w #[.int .i64 x.1, .int .i64 x.2.1, .string x.2.2] 37).cell j]
  simpa [vaC] using hj
theorem list_appV {ops : Array Oper} {rest : List Oper} {o : Oper} {a : Act} (w : World) {Q : Exit → Act → World → Prop} (hg : o.guard = none) (s x : Operand)
    (ho : o.op = .call { callee := .builtin .append, args := #[s, x], argTypes := #[24, 24] })
    (base : Nat) (v : Value) (L : List Va3) (hs : a.eval s = v) (hown : VOwn w base v L)
    (ad : Addr) (m c : Nat) (M : List Va3) (hM : M.length = m) (hx : a.eval x = .slice (some ad) m c) (hnews : ∀ j u, (vaC M)[j]? = some u → w.cell? (ad.add j) = some u)
    (hle : L.length + m ≤ 2097152) (hbase : base ≤ w.heap.size)
    (h : ∀ v' w', VOwn w' base v' (L ++ M) → (∀ a' : World, ∀ B : Nat, B ≤ base → Below B a' w → Below B a' w') → (v' = .slice none 0 0 ↔ v = .slice none 0 0 ∧ m = 0) → wpList Tryd.prog ops Q rest (a.put o.dst v') w') : wpList Tryd.prog ops Q (o :: rest) a w := by
  obtain ⟨i0, hi, hz0, hz1, hz2⟩ := info_parts infoVal
  refine wpList_append_own w hg s x 24 ho base 37 i0 _ 3 32 Tryd.underlying24 hi hz0 hz1 hz2 (by rfl) (by decide) v L.length (vaC L) hs hown ad m c (vaC M) hx (by rw [vaC_length, hM]) hnews vaC_one (by unfold maxLen; omega) (by omega) hbase ?_
  intro v' w' hown' hgrow hnil
  refine h v' w' ?_ (fun a' B hB hb => below_app hb (Nat.le_trans hB hbase) (fun k hk => Nat.le_trans hB (own_block hown k hk)) hgrow) hnil
  unfold VOwn
  rw [vaC_append, List.length_append, hM]
  exact hown'
end
section
open Go.ChangeShapes Go.WideShapes Go.ChangeAt Go.RowKit Go.Joins
open Go.Lib (byteCells byteCells_length byteCells_append)
end
section
open Go.Lib
theorem dec_small {u : Nat} (h : u < 10) : decDigits u = [UInt8.ofNat (48 + u)] := by rw [decDigits, dif_pos h]
theorem dec_big {u : Nat} (h : ¬ u < 10) : decDigits u = decDigits (u / 10) ++ [UInt8.ofNat (48 + u % 10)] := by rw [decDigits, dif_neg h]

def LeftD (N k : Nat) (l : List UInt8) : Prop := (k = 0 → l = decDigits N) ∧ (0 < k → decDigits k ++ l = decDigits N)

theorem left_start (N : Nat) (h : 0 < N) : LeftD N N [] := ⟨fun e => by omega, fun _ => by simp⟩

theorem left_step {N k : Nat} {l : List UInt8} (hk : 0 < k) (h : LeftD N k l) : LeftD N (k / 10) (UInt8.ofNat (48 + k % 10) :: l) := by
  have h2 := h.2 hk
  by_cases hs : k < 10
  · rw [dec_small hs] at h2
    have e0 : k / 10 = 0 := by omega
    have e1 : k % 10 = k := by omega
    rw [e0, e1]
    exact ⟨fun _ => h2, fun e => by omega⟩
  · rw [dec_big hs] at h2
    refine ⟨fun e => by omega, fun _ => ?_⟩
    rw [← h2]; simp

theorem left_len {N k : Nat} {l : List UInt8} (h : LeftD N k l) (hN : N < 18446744073709551616) : l.length ≤ 20 := by
  have hn := nDigits_le20 N hN
  rw [← decDigits_length] at hn
  by_cases hk : k = 0
  · rw [h.1 hk]; exact hn
  · have := h.2 (by omega)
    rw [← this] at hn
    simp at hn; omega

theorem itoa_zero : itoa 0 = [48] := by decide +kernel
theorem itoa_of_pos (k : Nat) : itoa (k : Int) = decDigits k := by unfold itoa; rw [if_neg (by omega)]; simp
theorem itoa_of_neg (k : Nat) (h : 0 < k) : itoa (-(k : Int)) = 45 :: decDigits k := by unfold itoa; rw [if_pos (by omega)]; simp

theorem neg_tmod (k : Nat) : (-(k : Int)).tmod 10 = -((k % 10 : Nat) : Int) := by
  rw [Int.neg_tmod, Int.tmod_eq_emod_of_nonneg (by omega)]; rfl
theorem neg_tdiv (k : Nat) : (-(k : Int)).tdiv 10 = -((k / 10 : Nat) : Int) := by
  rw [Int.neg_tdiv, Int.tdiv_eq_ediv_of_nonneg (by omega)]; rfl
end
section
open Go.ChangeShapes Go.WideShapes Go.ChangeAt Go.RowKit Go.Lib
theorem one_byte (w : World) (z : Int) :
    (convert 22 9 (.slice (some ⟨w.heap.size, 0, none⟩) 1 1)).run Tryd.prog (w.alloc (.cells #[.int .u8 z] 5)) = .ok (.string ⟨#[UInt8.ofNat z.toNat]⟩) (w.alloc (.cells #[.int .u8 z] 5)) := by
  have h := run_convert_bytes_arg (P := Tryd.prog) (w.alloc (.cells #[.int .u8 z] 5)) 22 5 Tryd.underlying22 Tryd.underlying5 w.heap.size 0 1 1 [z] rfl (fun i hi => by
    have : i = 0 := by omega
    subst this; simp [go_sem]) 9 Tryd.underlying9
  simpa [strOfNums] using h

theorem cons_str (x : UInt8) (s : ByteArray) : (({ data := #[x] } : ByteArray) ++ s).data.toList = x :: s.data.toList := by simp
theorem left_str {N k : Nat} {s : ByteArray} (hk : ¬ k = 0) (h : LeftD N k s.data.toList) : LeftD N (k / 10) (({ data := #[48 + UInt8.ofNat (k % 10)] } : ByteArray) ++ s).data.toList := by
  rw [cons_str]
  have := left_step (by omega) h
  rwa [UInt8.ofNat_add] at this

theorem left_str0 {N k : Nat} {s : ByteArray} (hk : ¬ k = 0) (hr : k % 10 = 0) (h : LeftD N k s.data.toList) : LeftD N (k / 10) (({ data := #[48] } : ByteArray) ++ s).data.toList := by
  have := left_str hk h
  rwa [hr] at this

theorem digits_pos (N : Nat) (h0 : 0 < N) (hN : N ≤ 9223372036854775807) (w : World) :
    Calls Tryd.prog 56 #[.int .i64 (N : Int)] w fun e w' => (∃ s : ByteArray, e = .returned (.string s) ∧ s.data.toList = decDigits N) ∧ Below w.heap.size w w' := by
  have hcv := one_byte
  go_enter Tryd.func56, Tryd.ntmps56
  go_wp2
  go_loopw [0, 4] (fun n out w' => ∃ (k : Nat) (s : ByteArray), k ≤ N ∧ n = .int .i64 k ∧ out = .string s ∧ LeftD N k s.data.toList ∧ Below w.heap.size w w') (fun n _ _ => (RowKit.intOf n).toNat)
  case atStart => exact ⟨N, _, Nat.le_refl _, rfl, rfl, left_start N h0, Below.refl _ _⟩
  case round =>
    obtain ⟨k, s, hk, rfl, rfl, hL, hg⟩ := hrel
    by_cases hz : k = 0
    · go_wp2
      go_ret
      exact ⟨⟨s, rfl, hL.1 hz⟩, hg⟩
    · have hsz : s.size ≤ 20 := by simpa using left_len hL (by omega)
      go_wp2
      go_roundw
      case rel =>
        exact ⟨k / 10, _, by omega, by go_num, rfl, left_str hz hL, hg.alloc hg.size _⟩
      case measure => simp [RowKit.intOf]; omega

theorem digits_neg (N : Nat) (h0 : 0 < N) (hN : N ≤ 9223372036854775808) (w : World) :
    Calls Tryd.prog 56 #[.int .i64 (-(N : Int))] w fun e w' => (∃ s : ByteArray, e = .returned (.string s) ∧ s.data.toList = 45 :: decDigits N) ∧ Below w.heap.size w w' := by
  have hcv := one_byte
  have ht := neg_tmod
  have hd := neg_tdiv
  go_enter Tryd.func56, Tryd.ntmps56
  go_wp2
  go_loopw [0, 4] (fun n out w' => ∃ (k : Nat) (s : ByteArray), k ≤ N ∧ n = .int .i64 (-(k : Int)) ∧ out = .string s ∧ LeftD N k s.data.toList ∧ Below w.heap.size w w') (fun n _ _ => (RowKit.intOf n).natAbs)
  case atStart => exact ⟨N, _, Nat.le_refl _, rfl, rfl, left_start N h0, Below.refl _ _⟩
  case round =>
    obtain ⟨k, s, hk, rfl, rfl, hL, hg⟩ := hrel
    have hsz : s.size ≤ 20 := by simpa using left_len hL (by omega)
    by_cases hz : k = 0
    · go_wp2
      go_ret
      refine ⟨⟨_, rfl, ?_⟩, hg⟩
      rw [cons_str, hL.1 hz]
    · have hm : k % 10 < 10 := Nat.mod_lt _ (by omega)
      by_cases hr : k % 10 = 0
      · go_wp2
        exact ⟨⟨k / 10, _, by omega, by go_num, rfl, left_str0 hz hr hL, hg.alloc hg.size _⟩, by simp [RowKit.intOf]; omega⟩
      · go_wp2
        exact ⟨⟨k / 10, _, by omega, by go_num, rfl, left_str hz hL, hg.alloc hg.size _⟩, by simp [RowKit.intOf]; omega⟩

theorem digits_any (n : Int) (h0 : -9223372036854775808 ≤ n) (h1 : n ≤ 9223372036854775807) (w : World) :
    Calls Tryd.prog 56 #[.int .i64 n] w fun e w' => (∃ s : ByteArray, e = .returned (.string s) ∧ s.data.toList = itoa n) ∧ Below w.heap.size w w' := by
  by_cases hp : 0 < n
  · obtain ⟨k, rfl⟩ : ∃ k : Nat, n = (k : Int) := ⟨n.toNat, by omega⟩
    rw [itoa_of_pos]
    exact digits_pos k (by omega) (by omega) w
  · by_cases hz : n = 0
    · subst hz
      rw [itoa_zero]
      go_enter Tryd.func56, Tryd.ntmps56
      go_wp2
      go_ret
      exact ⟨⟨_, rfl, rfl⟩, Below.refl _ _⟩
    · obtain ⟨k, rfl⟩ : ∃ k : Nat, n = -(k : Int) := ⟨n.natAbs, by omega⟩
      rw [itoa_of_neg k (by omega)]
      exact digits_neg k (by omega) (by omega) w
def markS (k : Nat) : List UInt8 := 109 :: decDigits k
end
section
open Go.RowKit
theorem and255 (x : Int) : bits .and .i64 x 255 = x % 256 := by
  have e : ((BitVec.ofInt 64 x) &&& (BitVec.ofInt 64 255)).toNat = (x % 256).toNat := by
    rw [BitVec.toNat_and, BitVec.toNat_ofInt, BitVec.toNat_ofInt, show ((255 : Int) % ((2 ^ 64 : Nat) : Int)).toNat = 2 ^ 8 - 1 by decide, Nat.and_two_pow_sub_one_eq_mod]
    omega
  show IntKind.i64.wrap (((BitVec.ofInt 64 x) &&& (BitVec.ofInt 64 255)).toNat : Int) = _
  rw [e, IntKind.wrap_i64]
  omega

structure Only (p : Nat) (w w' : World) : Prop where
  os : w'.os = w.os
  tape : w'.tape = w.tape
  output : w'.output = w.output
  size : w'.heap.size = w.heap.size
  block : ∀ k, k ≠ p → w'.heap[k]? = w.heap[k]?
theorem Only.refl (p : Nat) (w : World) : Only p w w := ⟨rfl, rfl, rfl, rfl, fun _ _ => rfl⟩
theorem Only.trans {p : Nat} {a b c : World} (h : Only p a b) (k : Only p b c) : Only p a c :=
  ⟨k.os.trans h.os, k.tape.trans h.tape, k.output.trans h.output, k.size.trans h.size, fun i hi => (k.block i hi).trans (h.block i hi)⟩
theorem Only.drew {p : Nat} {a b : World} (h : Only p a b) : Only p a b.drew := ⟨h.os, h.tape, h.output, h.size, h.block⟩
theorem Only.setCell {p : Nat} {a b : World} (h : Only p a b) (o : Nat) (v : Value) : Only p a (b.setCell ⟨p, o, none⟩ v) :=
  h.trans ⟨rfl, rfl, rfl, by simp [World.setCell], fun k hk => Below.heap_setCell _ _ _ _ hk⟩
theorem Only.below {p : Nat} {w w' : World} (h : Only p w w') {B : Nat} (hB : B ≤ p) : Below B w w' :=
  ⟨h.os, h.tape, h.output, Nat.le_of_eq h.size.symm, fun k hk => h.block k (by omega)⟩
theorem Only.owns {p : Nat} {w w' : World} (h : Only p w w') {base : Nat} {e : TypeId} {size : Nat} {v : Value} {n : Nat} {xs : List Value} (ho : w.ownsRow base e size v n xs) (hp : p < base) : w'.ownsRow base e size v n xs := by
  obtain ⟨h1, h2 | ⟨g, cap, cur, h3, h4, h5, h6⟩⟩ := ho
  · exact ⟨h1, .inl h2⟩
  · exact ⟨h1, .inr ⟨g, cap, cur, h3, h4, by rw [h.block g (by omega)]; exact h5, h6⟩⟩

def BytesAt (w : World) (p : Nat) (a : Option Addr) (n : Nat) : Prop :=
  n = 0 ∨ ∃ b o, a = some ⟨b, o, none⟩ ∧ b < p ∧ ∀ j, j < n → ∃ z : Nat, z ≤ 255 ∧ w.cell? ⟨b, o + j, none⟩ = some (.int .u8 (z : Int))
theorem BytesAt.keep {w w' : World} {p : Nat} {a : Option Addr} {n : Nat} (h : BytesAt w p a n) (hb : ∀ k, k < p → w'.heap[k]? = w.heap[k]?) : BytesAt w' p a n := by
  rcases h with h | ⟨b, o, h1, h2, h3⟩
  · exact .inl h
  · refine .inr ⟨b, o, h1, h2, fun j hj => ?_⟩
    obtain ⟨z, h4, h5⟩ := h3 j hj
    exact ⟨z, h4, by rw [World.cell?_of_block (w := w) (hb b h2)]; exact h5⟩
theorem BytesAt.mono {w : World} {p q : Nat} {a : Option Addr} {n : Nat} (h : BytesAt w p a n) (hq : p ≤ q) : BytesAt w q a n := by
  rcases h with h | ⟨b, o, h1, h2, h3⟩
  · exact .inl h
  · exact .inr ⟨b, o, h1, by omega, h3⟩

def CurIs (T : TypeId) (w : World) (p : Nat) (a : Option Addr) (n c : Nat) (i h : Int) : Prop :=
  w.heap[p]? = some (.cells #[.slice a n c, .int .i64 i, .int .i64 h] T (0, 0))
def Cur (T : TypeId) (w : World) (p : Nat) (a : Option Addr) (n c : Nat) : Prop :=
  (∃ i h : Int, CurIs T w p a n c i h ∧ 0 ≤ i ∧ i ≤ n) ∧ BytesAt w p a n ∧ n ≤ 1048576
theorem Cur.keep {T : TypeId} {w w' : World} {p : Nat} {a : Option Addr} {n c : Nat} (h : Cur T w p a n c) (hb : ∀ k, k ≤ p → w'.heap[k]? = w.heap[k]?) : Cur T w' p a n c := by
  obtain ⟨⟨i, x, h1, h2⟩, h3, h4⟩ := h
  exact ⟨⟨i, x, by unfold CurIs; rw [hb p (Nat.le_refl _)]; exact h1, h2⟩, h3.keep (fun k hk => hb k (by omega)), h4⟩
theorem Cur.lt {T : TypeId} {w : World} {p : Nat} {a : Option Addr} {n c : Nat} (h : Cur T w p a n c) : p < w.heap.size := by
  obtain ⟨⟨i, x, h1, h2⟩, h3, h4⟩ := h
  exact (Array.getElem?_eq_some_iff.1 h1).1
theorem CurIs.cell {T : TypeId} {w : World} {p : Nat} {a : Option Addr} {n c : Nat} {i x : Int} (h : CurIs T w p a n c i x) :
    w.cell? ⟨p, 0, none⟩ = some (.slice a n c) ∧ w.cell? ⟨p, 1, none⟩ = some (.int .i64 i) ∧ w.cell? ⟨p, 2, none⟩ = some (.int .i64 x) := by
  unfold CurIs at h
  simp [World.cell?, h]
theorem CurIs.frozen {T : TypeId} {w : World} {p : Nat} {a : Option Addr} {n c : Nat} {i x : Int} (h : CurIs T w p a n c i x) (j : Nat) : w.frozen? ⟨p, j, none⟩ = false := by
  unfold CurIs at h
  simp [World.frozen?, h]
theorem CurIs.set1 {T : TypeId} {w : World} {p : Nat} {a : Option Addr} {n c : Nat} {i x : Int} (h : CurIs T w p a n c i x) (i' : Int) : CurIs T (w.setCell ⟨p, 1, none⟩ (.int .i64 i')) p a n c i' x := by
  unfold CurIs at h ⊢
  obtain ⟨hlt, h'⟩ := Array.getElem?_eq_some_iff.1 h
  show (w.heap.modify p _)[p]? = _
  rw [Array.getElem?_eq_getElem (by simpa using hlt), Array.getElem_modify_self, h']
  rfl
theorem CurIs.set2 {T : TypeId} {w : World} {p : Nat} {a : Option Addr} {n c : Nat} {i x : Int} (h : CurIs T w p a n c i x) (x' : Int) : CurIs T (w.setCell ⟨p, 2, none⟩ (.int .i64 x')) p a n c i x' := by
  unfold CurIs at h ⊢
  obtain ⟨hlt, h'⟩ := Array.getElem?_eq_some_iff.1 h
  show (w.heap.modify p _)[p]? = _
  rw [Array.getElem?_eq_getElem (by simpa using hlt), Array.getElem_modify_self, h']
  rfl
theorem CurIs.drew {T : TypeId} {w : World} {p : Nat} {a : Option Addr} {n c : Nat} {i x : Int} (h : CurIs T w p a n c i x) : CurIs T w.drew p a n c i x := h

theorem byte_fin {C D : Prop} (V : Int) (hC : C) (hD : D) : ∃ x : Nat, x ≤ 255 ∧ Ending.returned (.int .i64 (V % 256)) = .returned (.int .i64 (x : Int)) ∧ C ∧ D :=
  ⟨(V % 256).toNat, by omega, by rw [show (((V % 256).toNat : Nat) : Int) = V % 256 by omega], hC, hD⟩
theorem cur_of {T : TypeId} {w w' : World} {p : Nat} {a : Option Addr} {n c : Nat} {i x : Int} (hO : Only p w w') (hB : BytesAt w p a n) (hI : CurIs T w' p a n c i x) (h0 : 0 ≤ i) (h1 : i ≤ n) (hn : n ≤ 1048576) : Cur T w' p a n c :=
  ⟨⟨i, x, hI, h0, h1⟩, hB.keep (fun k hk => hO.block k (by omega)), hn⟩
theorem below_fin {C D : Prop} {x : Nat} {m : Int} (h0 : 1 ≤ m) (hC : C) (hD : D) : ∃ y : Nat, (y : Int) < m ∧ Ending.returned (.int .i64 ((x : Int) % m)) = .returned (.int .i64 (y : Int)) ∧ C ∧ D := by
  obtain ⟨q, rfl⟩ : ∃ q : Nat, m = (q : Int) := ⟨m.toNat, by omega⟩
  have := Nat.mod_lt x (show 0 < q by omega)
  exact ⟨x % q, by omega, by rw [Int.natCast_emod], hC, hD⟩
theorem cur_new {T : TypeId} {w : World} {a : Option Addr} {n c : Nat} {x : Int} (hB : BytesAt w w.heap.size a n) (hn : n ≤ 1048576) : Cur T (w.alloc (.cells #[.slice a n c, .int .i64 0, .int .i64 x] T)) w.heap.size a n c :=
  ⟨⟨0, x, heap_alloc_new w _, by omega, by omega⟩, hB.keep (fun k hk => Below.heap_alloc _ _ _ hk), hn⟩
theorem Only.cell {p : Nat} {w w' : World} (h : Only p w w') {g o : Nat} (hg : g ≠ p) : w'.cell? ⟨g, o, none⟩ = w.cell? ⟨g, o, none⟩ := World.cell?_of_block (w := w) (h.block g hg)
end
end Go.Proofs.YtgibeakclknhnaaDoor
