/- How a tuple is read from its bytes. No program. -/
import Derived.Test.YtmgofehafjogfaaOrd18
namespace Go.Proofs.Ytmgofehafjogfaa
open Go.ChangeShapes Go.WideShapes Go.ChangeAt Go.RowKit

/-- How a text is read from its bytes: the text, and what is behind it. -/
def rdT : List UInt8 → Option (List UInt8 × List UInt8)
  | a :: b :: r => if a = 0 then (if b = 1 then some ([], r) else (rdT r).map fun p => (0 :: p.1, p.2)) else (rdT (b :: r)).map fun p => (a :: p.1, p.2)
  | _ => none
termination_by l => l.length
theorem rdT_esc : ∀ (s r : List UInt8), rdT (escB s ++ 0 :: 1 :: r) = some (s, r)
  | [], r => by rw [escB]; show rdT (0 :: 1 :: r) = _; rw [rdT, if_pos rfl, if_pos rfl]
  | b :: s, r => by
    have ih := rdT_esc s r
    rw [escB]
    by_cases hb : b = 0
    · rw [if_pos hb]
      show rdT (0 :: 255 :: (escB s ++ 0 :: 1 :: r)) = _
      rw [rdT, if_pos rfl, if_neg (by decide), ih, hb]
      rfl
    · rw [if_neg hb]
      show rdT (b :: (escB s ++ 0 :: 1 :: r)) = _
      obtain ⟨c, t, hc⟩ : ∃ c t, escB s ++ 0 :: 1 :: r = c :: t := by
        rcases h : escB s ++ 0 :: 1 :: r with _ | ⟨c, t⟩
        · simp at h
        · exact ⟨c, t, rfl⟩
      rw [hc] at ih ⊢
      rw [rdT, if_neg hb, ih]
      rfl
/-- What eight bytes, the high ones first, tell; as far as it goes. -/
def beV : List UInt8 → Nat
  | l => l.foldl (fun n b => n * 256 + b.toNat) 0
theorem beV_snoc (l : List UInt8) (b : UInt8) : beV (l ++ [b]) = beV l * 256 + b.toNat := by unfold beV; rw [List.foldl_append]; rfl
theorem beV_be : ∀ (k m : Nat), m < 256 ^ k → beV (beN k m) = m
  | 0, m, h => by simp at h; subst h; rfl
  | k + 1, m, h => by
    rw [Nat.pow_succ] at h
    have h1 : m / 256 < 256 ^ k := Nat.div_lt_of_lt_mul (by omega)
    rw [beN, beV_snoc, beV_be k _ h1, u8_nat (Nat.mod_lt _ (by decide))]
    omega
/-- What is said of a value that is read at a place: where one that is right begins there, it is that one. -/
def RdSays (b : List UInt8) (at_ : Nat) (x : Va3) (next : Nat) : Prop := at_ < next ∧ ∀ (y : Va3) (r : List UInt8), VaGood y.1 y.2.1 y.2.2 → b.drop at_ = vaB y ++ r → x = y ∧ next = at_ + (vaB y).length
/-- The tuple of which these are the bytes. -/
def TupIs (b : List UInt8) (L : List Va3) : Prop := TupGood L ∧ tupB L = b
theorem TupIs.one {b : List UInt8} {L M : List Va3} (h : TupIs b L) (h' : TupIs b M) : L = M := tup_inj h.1.1 h'.1.1 (h.2.trans h'.2.symm)
/-- While a tuple is read: where there is one, it goes on as it began. -/
def RdTup (b : List UInt8) (L : List Va3) (at_ : Nat) : Prop := ∀ M, TupIs b M → ∃ S, M = L ++ S ∧ at_ ≤ b.length ∧ b.drop at_ = tupB S
theorem RdTup.start (b : List UInt8) : RdTup b [] 0 := fun M hM => ⟨M, rfl, Nat.zero_le _, hM.2.symm⟩
theorem RdTup.next {b : List UInt8} {L : List Va3} {at_ next : Nat} {x : Va3} (h : RdTup b L at_) (hlt : at_ < b.length) (hr : RdSays b at_ x next) : RdTup b (L ++ [x]) next := by
  intro M hM
  obtain ⟨S, hS, hle, hd⟩ := h M hM
  rcases S with _ | ⟨y, S⟩
  · have h1 : (b.drop at_).length = 0 := by rw [hd]; rfl
    rw [List.length_drop] at h1
    omega
  · have hy : VaGood y.1 y.2.1 y.2.2 := hM.1.1 y (by rw [hS]; simp)
    obtain ⟨hx, hn⟩ := hr.2 y (tupB S) hy hd
    refine ⟨S, by rw [hS, hx]; simp, ?_, ?_⟩
    · have h1 : (b.drop at_).length = (vaB y).length + (tupB S).length := by rw [hd]; show (vaB y ++ tupB S).length = _; rw [List.length_append]
      rw [List.length_drop] at h1
      omega
    · rw [hn, ← List.drop_drop, hd]
      show (vaB y ++ tupB S).drop _ = _
      rw [List.drop_left]
theorem RdTup.none {b : List UInt8} {L : List Va3} {at_ : Nat} (h : RdTup b L at_) (he : ¬ (at_ < b.length ∧ L.length ≤ 4)) (hn : ¬ (at_ = b.length ∧ TupGood L ∧ tupB L = b)) : ∀ M, ¬ TupIs b M := by
  intro M hM
  obtain ⟨S, hS, hle, hd⟩ := h M hM
  by_cases h4 : L.length ≤ 4
  · have h1 : at_ = b.length := by omega
    rw [h1, List.drop_length] at hd
    rcases S with _ | ⟨y, S⟩
    · rw [List.append_nil] at hS
      subst hS
      exact hn ⟨h1, hM.1, hM.2⟩
    · obtain ⟨c, r, hc⟩ := vaB_some y
      have h2 : tupB (y :: S) = c :: (r ++ tupB S) := by show vaB y ++ tupB S = _; rw [hc]; rfl
      rw [h2] at hd
      cases hd
  · have h1 := hM.1.2
    rw [hS, List.length_append] at h1
    omega
end Go.Proofs.Ytmgofehafjogfaa
