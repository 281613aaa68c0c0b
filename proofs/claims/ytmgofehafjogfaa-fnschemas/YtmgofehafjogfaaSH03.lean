/- Texts joined: Nums, Dig, Mark, ValK, Tup18, Ord18, Rd18, ByA, BytK, MarkAt. -/
import Derived.Lib.ItoaNum
import Derived.Lib.ItoaLen
import Derived.Test.YtmgofehafjogfaaRows
import Derived.WalkKit
import Derived.ProofKit
import Derived.Laws.BytesArg
import Derived.Test.YtmgofehafjogfaaSH01
import Derived.Test.YtmgofehafjogfaaSH02
import Derived.WalkSmall
import Derived.Deep.RegionHeld3
import Derived.Deep.Cut
set_option maxHeartbeats 200000
set_option maxRecDepth 100000
namespace Go.Proofs.Ytmgofehafjogfaa
section
open Go.Lib
def LeftD (N k : Nat) (l : List UInt8) : Prop := (k = 0 → l = decDigits N) ∧ (0 < k → decDigits k ++ l = decDigits N)
end
section
open Go.ChangeShapes Go.WideShapes Go.ChangeAt Go.RowKit Go.Lib

def markS (k : Nat) : List UInt8 := 109 :: decDigits k
end
section
open Go.ChangeShapes Go.WideShapes Go.ChangeAt Go.RowKit
def markV (i : Nat) : Va3 := ((i : Int) * 3 + 1, (i : Int) * 3 + 2, ⟨(markS (i * 3 + 3)).toArray⟩)
def marksV (n : Nat) : List Va3 := (List.range n).map markV
theorem set_three {α : Type} (a : List α) (x y z x' y' z' : α) (r : List α) (k : Nat) (hk : a.length = k) : ((((a ++ x :: y :: z :: r).set k x').set (k + 1) y').set (k + 2) z') = a ++ x' :: y' :: z' :: r := by
  subst hk
  rw [List.set_append_right _ _ (Nat.le_refl _), Nat.sub_self, List.set_cons_zero, List.set_append_right _ _ (by omega), show a.length + 1 - a.length = 0 + 1 by omega, List.set_cons_succ, List.set_cons_zero, List.set_append_right _ _ (by omega), show a.length + 2 - a.length = 0 + 1 + 1 by omega, List.set_cons_succ, List.set_cons_succ, List.set_cons_zero]
def tupLess : List Va3 → List Va3 → Bool
  | [], b => decide (0 < b.length)
  | _ :: _, [] => false
  | x :: a, y :: b => if sameV x.1 x.2.1 x.2.2 y.1 y.2.1 y.2.2 = true then tupLess a b else lessV x.1 x.2.1 x.2.2 y.1 y.2.1 y.2.2
def beN : Nat → Nat → List UInt8
  | 0, _ => []
  | k + 1, m => beN k (m / 256) ++ [UInt8.ofNat (m % 256)]
def escB : List UInt8 → List UInt8
  | [] => []
  | b :: r => if b = 0 then 0 :: 255 :: escB r else b :: escB r
def vaB (x : Va3) : List UInt8 :=
  if x.1 = 0 then [1] else if x.1 = 1 then [2, UInt8.ofNat x.2.1.toNat] else if x.1 = 2 then 3 :: beN 8 (x.2.1 + 4611686018427387904).toNat else 4 :: (escB x.2.2.data.toList ++ [0, 1])
def tupB (L : List Va3) : List UInt8 := L.flatMap vaB
theorem bl_pre : ∀ (p a b : List UInt8), Op.bytesLess (p ++ a) (p ++ b) = Op.bytesLess a b
  | [], _, _ => rfl
  | x :: p, a, b => by
    show Op.bytesLess (x :: (p ++ a)) (x :: (p ++ b)) = _
    rw [Op.bytesLess, bl_pre p a b]
    have h : ¬ (x < x) := by rw [UInt8.lt_iff_toNat_lt]; omega
    simp [h]
theorem bl_self (a : List UInt8) : Op.bytesLess a a = false := by
  have h := bl_pre a [] []
  rw [List.append_nil] at h
  rw [h]
  rfl
theorem bl_head {x y : UInt8} (a b : List UInt8) (h : ¬ x = y) : Op.bytesLess (x :: a) (y :: b) = decide (x.toNat < y.toNat) := by
  rw [Op.bytesLess]
  have h1 : (x == y) = false := by simpa using h
  rw [h1]
  simp [UInt8.lt_iff_toNat_lt]
theorem u8_ne {p q : Nat} (hp : p < 256) (hq : q < 256) (h : ¬ p = q) : ¬ UInt8.ofNat p = UInt8.ofNat q := by
  intro e
  have := congrArg UInt8.toNat e
  simp at this
  omega
theorem u8_nat {p : Nat} (hp : p < 256) : (UInt8.ofNat p).toNat = p := by simp; omega
theorem bl_beN : ∀ (k m m' : Nat) (a b : List UInt8), m < 256 ^ k → m' < 256 ^ k → ¬ m = m' → Op.bytesLess (beN k m ++ a) (beN k m' ++ b) = decide (m < m')
  | 0, m, m', a, b, h, h', hne => by simp at h h'; omega
  | k + 1, m, m', a, b, h, h', hne => by
    rw [Nat.pow_succ] at h h'
    rw [beN, beN, List.append_assoc, List.append_assoc]
    have h1 : m / 256 < 256 ^ k := Nat.div_lt_of_lt_mul (by omega)
    have h2 : m' / 256 < 256 ^ k := Nat.div_lt_of_lt_mul (by omega)
    by_cases hd : m / 256 = m' / 256
    · rw [hd, bl_pre]
      have hm := Nat.mod_lt m (show 256 > 0 by decide)
      have hm' := Nat.mod_lt m' (show 256 > 0 by decide)
      have hr : ¬ m % 256 = m' % 256 := by omega
      show Op.bytesLess (UInt8.ofNat (m % 256) :: a) (UInt8.ofNat (m' % 256) :: b) = _
      rw [bl_head _ _ (u8_ne hm hm' hr), u8_nat hm, u8_nat hm']
      exact decide_eq_decide.2 (by omega)
    · rw [bl_beN k _ _ _ _ h1 h2 hd]
      exact decide_eq_decide.2 (by omega)
theorem u8_pos {x : UInt8} (h : ¬ x = 0) : 0 < x.toNat := by
  rcases Nat.eq_zero_or_pos x.toNat with h1 | h1
  · exact absurd (UInt8.toNat_inj.1 (by simpa using h1)) h
  · exact h1
theorem bl_esc : ∀ (s s' a b : List UInt8), ¬ s = s' → Op.bytesLess (escB s ++ 0 :: 1 :: a) (escB s' ++ 0 :: 1 :: b) = Op.bytesLess s s'
  | [], [], _, _, h => absurd rfl h
  | [], y :: s', a, b, _ => by
    rw [escB, escB]
    by_cases hy : y = 0
    · rw [if_pos hy]
      show Op.bytesLess ([0] ++ (1 :: a)) ([0] ++ (255 :: (escB s' ++ 0 :: 1 :: b))) = _
      rw [bl_pre, bl_head _ _ (by decide)]
      rfl
    · rw [if_neg hy]
      show Op.bytesLess (0 :: 1 :: a) (y :: (escB s' ++ 0 :: 1 :: b)) = _
      rw [bl_head _ _ (fun e => hy e.symm)]
      exact decide_eq_true (u8_pos hy)
  | x :: s, [], a, b, _ => by
    rw [escB, escB]
    by_cases hx : x = 0
    · rw [if_pos hx]
      show Op.bytesLess ([0] ++ (255 :: (escB s ++ 0 :: 1 :: a))) ([0] ++ (1 :: b)) = _
      rw [bl_pre, bl_head _ _ (by decide)]
      rfl
    · rw [if_neg hx]
      show Op.bytesLess (x :: (escB s ++ 0 :: 1 :: a)) (0 :: 1 :: b) = _
      rw [bl_head _ _ hx]
      exact decide_eq_false (by simp)
  | x :: s, y :: s', a, b, h => by
    by_cases hxy : x = y
    · subst hxy
      have hs : ¬ s = s' := fun e => h (by rw [e])
      have ih := bl_esc s s' a b hs
      have hr : Op.bytesLess (x :: s) (x :: s') = Op.bytesLess s s' := bl_pre [x] s s'
      rw [escB, escB, hr, ← ih]
      by_cases hx : x = 0
      · rw [if_pos hx, if_pos hx]
        exact bl_pre [0, 255] _ _
      · rw [if_neg hx, if_neg hx]
        exact bl_pre [x] _ _
    · rw [escB, escB, bl_head s s' hxy]
      by_cases hx : x = 0
      · subst hx
        rw [if_pos rfl, if_neg (fun e => hxy e.symm)]
        exact bl_head _ _ hxy
      · by_cases hy : y = 0
        · subst hy
          rw [if_neg hx, if_pos rfl]
          exact bl_head _ _ hxy
        · rw [if_neg hx, if_neg hy]
          exact bl_head _ _ hxy
theorem va_less {x y : Va3} (hx : VaGood x.1 x.2.1 x.2.2) (hy : VaGood y.1 y.2.1 y.2.2) (h : sameV x.1 x.2.1 x.2.2 y.1 y.2.1 y.2.2 = false) (a b : List UInt8) :
    Op.bytesLess (vaB x ++ a) (vaB y ++ b) = lessV x.1 x.2.1 x.2.2 y.1 y.2.1 y.2.2 := by
  obtain ⟨k, n, s⟩ := x
  obtain ⟨k', n', s'⟩ := y
  dsimp only at hx hy h ⊢
  have hne : ¬ (k = k' ∧ n = n' ∧ s = s') := of_decide_eq_false h
  unfold lessV vaB
  dsimp only
  by_cases hk : k = k'
  · subst hk
    rw [if_pos rfl]
    rcases hx with ⟨rfl, h1, h2⟩ | ⟨rfl, h1, h2⟩ | ⟨rfl, h1, h2⟩ | ⟨rfl, h1, h2⟩
    · rcases hy with ⟨_, h3, h4⟩ | ⟨h5, _⟩ | ⟨h5, _⟩ | ⟨h5, _⟩ <;> try (exact absurd h5 (by decide))
      exact absurd ⟨rfl, by rw [h1, h3], by rw [str_nil h2, str_nil h4]⟩ hne
    · rcases hy with ⟨h5, _⟩ | ⟨_, h3, h4⟩ | ⟨h5, _⟩ | ⟨h5, _⟩ <;> try (exact absurd h5 (by decide))
      have hn : ¬ n = n' := fun e => hne ⟨rfl, e, by rw [str_nil h2, str_nil h4]⟩
      rw [if_neg hn]
      show Op.bytesLess ([2] ++ (UInt8.ofNat n.toNat :: a)) ([2] ++ (UInt8.ofNat n'.toNat :: b)) = _
      have e1 : n.toNat < 256 := by omega
      have e2 : n'.toNat < 256 := by omega
      rw [bl_pre, bl_head _ _ (u8_ne e1 e2 (by omega)), u8_nat e1, u8_nat e2]
      exact decide_eq_decide.2 (by omega)
    · rcases hy with ⟨h5, _⟩ | ⟨h5, _⟩ | ⟨_, h3, h4⟩ | ⟨h5, _⟩ <;> try (exact absurd h5 (by decide))
      have hn : ¬ n = n' := fun e => hne ⟨rfl, e, by rw [str_nil h2, str_nil h4]⟩
      rw [if_neg hn]
      show Op.bytesLess ([3] ++ (beN 8 (n + 4611686018427387904).toNat ++ a)) ([3] ++ (beN 8 (n' + 4611686018427387904).toNat ++ b)) = _
      rw [bl_pre, bl_beN 8 _ _ _ _ (by omega) (by omega) (by omega)]
      exact decide_eq_decide.2 (by omega)
    · rcases hy with ⟨h5, _⟩ | ⟨h5, _⟩ | ⟨h5, _⟩ | ⟨_, h3, h4⟩ <;> try (exact absurd h5 (by decide))
      rw [if_pos (h1.trans h3.symm)]
      have hs : ¬ s.data.toList = s'.data.toList := fun e => hne ⟨rfl, h1.trans h3.symm, str_eq e⟩
      show Op.bytesLess ([4] ++ ((escB s.data.toList ++ [0, 1]) ++ a)) ([4] ++ ((escB s'.data.toList ++ [0, 1]) ++ b)) = _
      rw [bl_pre, List.append_assoc, List.append_assoc]
      have h6 := bl_esc s.data.toList s'.data.toList a b hs
      simp only [ByteArray.toList_eq]
      exact h6
  · rw [if_neg hk]
    rcases hx with ⟨rfl, _⟩ | ⟨rfl, _⟩ | ⟨rfl, _⟩ | ⟨rfl, _⟩ <;> rcases hy with ⟨rfl, _⟩ | ⟨rfl, _⟩ | ⟨rfl, _⟩ | ⟨rfl, _⟩ <;> first | exact absurd rfl hk | (exact bl_head _ _ (by decide))
theorem vaB_some (x : Va3) : ∃ c r, vaB x = c :: r := by
  unfold vaB
  split
  · exact ⟨_, _, rfl⟩
  · split
    · exact ⟨_, _, rfl⟩
    · split <;> exact ⟨_, _, rfl⟩
theorem tup_less : ∀ {L M : List Va3}, (∀ x ∈ L, VaGood x.1 x.2.1 x.2.2) → (∀ x ∈ M, VaGood x.1 x.2.1 x.2.2) → Op.bytesLess (tupB L) (tupB M) = tupLess L M
  | [], [], _, _ => rfl
  | [], y :: M, _, _ => by
    obtain ⟨c, r, hc⟩ := vaB_some y
    rw [tupLess]
    show Op.bytesLess [] (vaB y ++ tupB M) = _
    rw [hc]
    rfl
  | x :: L, [], _, _ => by
    rw [tupLess]
    show Op.bytesLess _ [] = _
    cases tupB (x :: L) <;> rfl
  | x :: L, y :: M, hL, hM => by
    rw [tupLess]
    show Op.bytesLess (vaB x ++ tupB L) (vaB y ++ tupB M) = _
    rcases hs : sameV x.1 x.2.1 x.2.2 y.1 y.2.1 y.2.2 with _ | _
    · rw [if_neg (by decide)]
      exact va_less (hL x (by simp)) (hM y (by simp)) hs _ _
    · rw [if_pos rfl]
      have h1 := of_decide_eq_true hs
      have h2 : x = y := by
        obtain ⟨a, b, c⟩ := x
        obtain ⟨a', b', c'⟩ := y
        obtain ⟨rfl, rfl, rfl⟩ := h1
        rfl
      rw [h2, bl_pre]
      exact tup_less (fun z hz => hL z (by simp [hz])) (fun z hz => hM z (by simp [hz]))
theorem bl_tri : ∀ (a b : List UInt8), Op.bytesLess a b = false → Op.bytesLess b a = false → a = b
  | [], [], _, _ => rfl
  | [], y :: b, h, _ => by cases h
  | x :: a, [], _, h => by cases h
  | x :: a, y :: b, h, h' => by
    by_cases hxy : x = y
    · subst hxy
      rw [show x :: a = [x] ++ a from rfl, show x :: b = [x] ++ b from rfl, bl_pre] at h h'
      rw [bl_tri a b h h']
    · rw [bl_head _ _ hxy] at h
      rw [bl_head _ _ (fun e => hxy e.symm)] at h'
      have h1 := of_decide_eq_false h
      have h2 := of_decide_eq_false h'
      exact absurd (UInt8.toNat_inj.1 (by omega)) hxy
theorem lessV_or {x y : Va3} (h : sameV x.1 x.2.1 x.2.2 y.1 y.2.1 y.2.2 = false) : lessV x.1 x.2.1 x.2.2 y.1 y.2.1 y.2.2 = !lessV y.1 y.2.1 y.2.2 x.1 x.2.1 x.2.2 := by
  obtain ⟨k, n, s⟩ := x
  obtain ⟨k', n', s'⟩ := y
  dsimp only at h ⊢
  have hne : ¬ (k = k' ∧ n = n' ∧ s = s') := of_decide_eq_false h
  unfold lessV
  by_cases hk : k = k'
  · subst hk
    rw [if_pos rfl, if_pos rfl]
    by_cases hn : n = n'
    · subst hn
      rw [if_pos rfl, if_pos rfl]
      rcases h1 : Op.bytesLess s.toList s'.toList with _ | _
      · rcases h2 : Op.bytesLess s'.toList s.toList with _ | _
        · have h3 := bl_tri _ _ h1 h2
          simp only [ByteArray.toList_eq] at h3
          exact absurd ⟨rfl, rfl, str_eq h3⟩ hne
        · rfl
      · rcases h2 : Op.bytesLess s'.toList s.toList with _ | _
        · rfl
        · exact absurd (h1.symm.trans (bl_asym _ _ h2)) (by decide)
    · rw [if_neg hn, if_neg (fun e => hn e.symm)]
      by_cases h1 : n < n'
      · rw [decide_eq_true h1, decide_eq_false (by omega)]; rfl
      · rw [decide_eq_false h1, decide_eq_true (by omega)]; rfl
  · rw [if_neg hk, if_neg (fun e => hk e.symm)]
    by_cases h1 : k < k'
    · rw [decide_eq_true h1, decide_eq_false (by omega)]; rfl
    · rw [decide_eq_false h1, decide_eq_true (by omega)]; rfl
where
  bl_asym : ∀ (a b : List UInt8), Op.bytesLess a b = true → Op.bytesLess b a = false
    | _, [], h => by simp [Op.bytesLess] at h
    | [], y :: b, _ => rfl
    | x :: a, y :: b, h => by
      by_cases hxy : x = y
      · subst hxy
        rw [show x :: a = [x] ++ a from rfl, show x :: b = [x] ++ b from rfl, bl_pre] at h ⊢
        exact bl_asym a b h
      · rw [bl_head _ _ hxy] at h
        rw [bl_head _ _ (fun e => hxy e.symm)]
        have h1 := of_decide_eq_true h
        exact decide_eq_false (by omega)
theorem tup_tri : ∀ {L M : List Va3}, tupLess L M = false → tupLess M L = false → L = M
  | [], [], _, _ => rfl
  | [], y :: M, h, _ => by rw [tupLess] at h; exact absurd (of_decide_eq_false h) (by simp)
  | x :: L, [], _, h => by rw [tupLess] at h; exact absurd (of_decide_eq_false h) (by simp)
  | x :: L, y :: M, h, h' => by
    rw [tupLess] at h h'
    rcases hs : sameV x.1 x.2.1 x.2.2 y.1 y.2.1 y.2.2 with _ | _
    · have hs' : sameV y.1 y.2.1 y.2.2 x.1 x.2.1 x.2.2 = false := by
        unfold sameV at hs ⊢
        have h1 := of_decide_eq_false hs
        exact decide_eq_false fun e => h1 ⟨e.1.symm, e.2.1.symm, e.2.2.symm⟩
      rw [hs, if_neg (by decide)] at h
      rw [hs', if_neg (by decide)] at h'
      have h1 := lessV_or hs
      rw [h, h'] at h1
      cases h1
    · have h1 := of_decide_eq_true hs
      have h2 : x = y := by
        obtain ⟨a, b, c⟩ := x
        obtain ⟨a', b', c'⟩ := y
        obtain ⟨rfl, rfl, rfl⟩ := h1
        rfl
      subst h2
      rw [hs, if_pos rfl] at h h'
      rw [tup_tri h h']
theorem tup_inj {L M : List Va3} (hL : ∀ x ∈ L, VaGood x.1 x.2.1 x.2.2) (hM : ∀ x ∈ M, VaGood x.1 x.2.1 x.2.2) (h : tupB L = tupB M) : L = M :=
  tup_tri (by rw [← tup_less hL hM, h, bl_self]) (by rw [← tup_less hM hL, h, bl_self])
def rdT : List UInt8 → Option (List UInt8 × List UInt8)
  | a :: b :: r => if a = 0 then (if b = 1 then some ([], r) else (rdT r).map fun p => (0 :: p.1, p.2)) else (rdT (b :: r)).map fun p => (a :: p.1, p.2)
  | _ => none
termination_by l => l.length
def beV : List UInt8 → Nat
  | l => l.foldl (fun n b => n * 256 + b.toNat) 0
def RdSays (b : List UInt8) (at_ : Nat) (x : Va3) (next : Nat) : Prop := at_ < next ∧ ∀ (y : Va3) (r : List UInt8), VaGood y.1 y.2.1 y.2.2 → b.drop at_ = vaB y ++ r → x = y ∧ next = at_ + (vaB y).length
def TupIs (b : List UInt8) (L : List Va3) : Prop := TupGood L ∧ tupB L = b
theorem TupIs.one {b : List UInt8} {L M : List Va3} (h : TupIs b L) (h' : TupIs b M) : L = M := tup_inj h.1.1 h'.1.1 (h.2.trans h'.2.symm)
def RdTup (b : List UInt8) (L : List Va3) (at_ : Nat) : Prop := ∀ M, TupIs b M → ∃ S, M = L ++ S ∧ at_ ≤ b.length ∧ b.drop at_ = tupB S
theorem RdTup.next {b : List UInt8} {L : List Va3} {at_ next : Nat} {x : Va3} (h : RdTup b L at_) (hlt : at_ < b.length) (hr : RdSays b at_ x next) : RdTup b (L ++ [x]) next := by
  intro M hM
  obtain ⟨S, hS, hle, hd⟩ := h M hM
  rcases S with _ | ⟨y, S⟩
  · have h1 : (b.drop at_).length = 0 := by rw [hd]; rfl
    rw [List.length_drop] at h1
    omega
  · have hy : VaGood y.1 y.2.1 y.2.2 := hM.1.1 y (by rw [hS]; simp)
    obtain ⟨hx, hn⟩ := hr.2 y (tupB S) hy hd
    refine ⟨S, by rw [hS, hx]; simp, ?_, ?_⟩
    · have h1 : (b.drop at_).length = (vaB y).length + (tupB S).length := by rw [hd]; show (vaB y ++ tupB S).length = _; rw [List.length_append]
      rw [List.length_drop] at h1
      omega
    · rw [hn, ← List.drop_drop, hd]
      show (vaB y ++ tupB S).drop _ = _
      rw [List.drop_left]
theorem RdTup.none {b : List UInt8} {L : List Va3} {at_ : Nat} (h : RdTup b L at_) (he : ¬ (at_ < b.length ∧ L.length ≤ 4)) (hn : ¬ (at_ = b.length ∧ TupGood L ∧ tupB L = b)) : ∀ M, ¬ TupIs b M := by
  intro M hM
  obtain ⟨S, hS, hle, hd⟩ := h M hM
  by_cases h4 : L.length ≤ 4
  · have h1 : at_ = b.length := by omega
    rw [h1, List.drop_length] at hd
    rcases S with _ | ⟨y, S⟩
    · rw [List.append_nil] at hS
      subst hS
      exact hn ⟨h1, hM.1, hM.2⟩
    · obtain ⟨c, r, hc⟩ := vaB_some y
      have h2 : tupB (y :: S) = c :: (r ++ tupB S) := by show vaB y ++ tupB S = _; rw [hc]; rfl
      rw [h2] at hd
      cases hd
  · have h1 := hM.1.2
    rw [hS, List.length_append] at h1
    omega
open Go.Lib (byteCells byteCells_length byteCells_append)

def BysAt (w : World) (a : Option Addr) (n : Nat) (l : List UInt8) : Prop :=
  l.length = n ∧ n ≤ 2097152 ∧ (n = 0 ∨ ∃ b o, a = some ⟨b, o, none⟩ ∧ ∀ i x, l[i]? = some x → w.cell? ⟨b, o + i, none⟩ = some (.int .u8 (x.toNat : Int)))
theorem BysAt.below {w w' : World} {a : Option Addr} {n : Nat} {l : List UInt8} (h : BysAt w a n l) {B : Nat} (hb : Below B w w') (hB : w.heap.size ≤ B) : BysAt w' a n l := by
  obtain ⟨h1, h2, h3 | ⟨b, o, h3, h4⟩⟩ := h
  · exact ⟨h1, h2, .inl h3⟩
  · refine ⟨h1, h2, .inr ⟨b, o, h3, fun i x hi => ?_⟩⟩
    have h5 := h4 i x hi
    exact (hb.cell (Nat.lt_of_lt_of_le (World.block_lt_of_cell? w _ h5) hB)).trans h5
theorem BysAt.set {w : World} {b o n : Nat} {l : List UInt8} {q : Addr} (h : BysAt w (some ⟨b, o, none⟩) n l) (hq : ¬ b = q.block) (v : Value) : BysAt (w.setCell q v) (some ⟨b, o, none⟩) n l := by
  obtain ⟨h1, h2, h3 | ⟨b', o', h3, h4⟩⟩ := h
  · exact ⟨h1, h2, .inl h3⟩
  · cases h3
    refine ⟨h1, h2, .inr ⟨b, o, rfl, fun i x hi => ?_⟩⟩
    rw [World.cell?_of_block (w := w) (Below.heap_setCell _ _ _ _ hq)]
    exact h4 i x hi
theorem dropB {l : List UInt8} {j : Nat} {x : UInt8} (h : l[j]? = some x) : l.drop j = x :: l.drop (j + 1) := by
  rw [List.drop_eq_getElem_cons (List.getElem?_eq_some_iff.1 h).1, (List.getElem?_eq_some_iff.1 h).2]
def RdT (l : List UInt8) (i j : Nat) (o : List UInt8) : Prop := o.length ≤ j ∧ rdT (l.drop i) = (rdT (l.drop j)).map fun p => (o ++ p.1, p.2)
theorem RdT.two {l : List UInt8} {i j : Nat} {o : List UInt8} {y : UInt8} (h : RdT l i j o) (h0 : l[j]? = some 0) (h1 : l[j + 1]? = some y) (hy : ¬ y = 1) : RdT l i (j + 2) (o ++ [0]) := by
  refine ⟨by rw [List.length_append, List.length_singleton]; have := h.1; omega, ?_⟩
  rw [h.2, dropB h0, dropB h1, rdT, if_pos rfl, if_neg hy]
  rcases rdT (l.drop (j + 2)) with _ | ⟨a, b⟩
  · rfl
  · simp
theorem RdT.one {l : List UInt8} {i j : Nat} {o : List UInt8} {x y : UInt8} (h : RdT l i j o) (h0 : l[j]? = some x) (h1 : l[j + 1]? = some y) (hx : ¬ x = 0) : RdT l i (j + 1) (o ++ [x]) := by
  refine ⟨by rw [List.length_append, List.length_singleton]; have := h.1; omega, ?_⟩
  rw [h.2, dropB h0, dropB h1, rdT, if_neg hx, ← dropB h1]
  rcases rdT (l.drop (j + 1)) with _ | ⟨a, b⟩
  · rfl
  · simp
theorem RdT.none {l : List UInt8} {i j : Nat} {o : List UInt8} (h : RdT l i j o) (hj : ¬ j + 1 < l.length) : rdT (l.drop i) = none := by
  rw [h.2]
  have h1 : (l.drop j).length ≤ 1 := by rw [List.length_drop]; omega
  generalize l.drop j = d at h1 ⊢
  rcases d with _ | ⟨x, _ | ⟨y, r⟩⟩
  · rw [rdT]; rfl
    intro a b r e; cases e
  · rw [rdT]; rfl
    intro a b r e; cases e
  · simp at h1
def TxAns (l : List UInt8) (i : Nat) (e : Ending) : Prop := ∃ (s : ByteArray) (next : Nat), e = .returned (.tuple #[.string s, .int .i64 (next : Int)]) ∧ i < next ∧ next ≤ l.length + 1 ∧ s.size ≤ l.length ∧ ∀ t r, rdT (l.drop i) = some (t, r) → s.data.toList = t ∧ next + r.length = l.length
open Go.Lib (byteCells byteCells_length byteCells_append)

def marksB (n : Nat) : List UInt8 := (List.range n).map fun i => UInt8.ofNat ((i + 1) % 256)
def uptoB (xs : List UInt8) (k n : Nat) : List UInt8 := xs.take k ++ List.replicate (n - k) 0
end
section
open Go.ChangeShapes Go.WideShapes Go.ChangeAt Go.RowKit Go.Joins
open Go.Lib (byteCells byteCells_length byteCells_append)
end
end Go.Proofs.Ytmgofehafjogfaa
