/- Two lists of values held against each other; bytes that came in; what is answered of bytes is one. -/
import Derived.Test.YtmgofehafjogfaaVasO
import Derived.Test.YtmgofehafjogfaaDatVt
import Derived.Test.YtmgofehafjogfaaByA
import Derived.Test.YtmgofehafjogfaaCur
import Derived.Test.YtmgofehafjogfaaTupA
namespace Go.Proofs.Ytmgofehafjogfaa
open Go.ChangeShapes Go.WideShapes Go.ChangeAt Go.RowKit Go.Joins
open Go.Lib (byteCells byteCells_length byteCells_append)

/-- Values as data. -/
def celsV : List Va3 → List Cel
  | [] => []
  | x :: L => .i x.1 :: .i x.2.1 :: .s x.2.2 :: celsV L
theorem celsV_length : ∀ L : List Va3, (celsV L).length = L.length * 3
  | [] => rfl
  | x :: L => by rw [celsV]; simp [celsV_length L]; omega
theorem atL_vas {w : World} : ∀ L : List Va3, AtL false w (vaC L) (celsV L)
  | [] => AtL.nil
  | x :: L => .cons (.i x.1) (.cons (.i x.2.1) (.cons (.s x.2.2) (atL_vas L)))
theorem celsV_at : ∀ {L : List Va3} {j : Nat} {c : Cel} {t : Ty}, (celsV L)[j]? = some c → (tyValue)[j % 3]? = some t → Has c t
  | [], _, _, _, h, _ => by simp [celsV] at h
  | x :: L, 0, c, t, h, h' => by
    simp [celsV] at h
    simp [tyValue] at h'
    subst h h'
    exact .i _
  | x :: L, 1, c, t, h, h' => by
    simp [celsV] at h
    simp [tyValue] at h'
    subst h h'
    exact .i _
  | x :: L, 2, c, t, h, h' => by
    simp [celsV] at h
    simp [tyValue] at h'
    subst h h'
    exact .s _
  | x :: L, j + 3, c, t, h, h' => by
    rw [show (j + 3) % 3 = j % 3 by omega] at h'
    exact celsV_at (L := L) (j := j) (by simpa [celsV] using h) h'
theorem has_vas (L : List Va3) (n : Nat) (hn : L.length = n) : Has (.l 43 3 n (celsV L)) (.l 43 3 tyValue) :=
  .l _ _ _ _ _ rfl (by rw [celsV_length, hn]) fun _ _ _ => celsV_at
theorem at_vas {w : World} {a : Option Addr} {n c : Nat} {L : List Va3} (h : VasAt w a n L) : At false w (.slice a n c) (.l 43 3 n (celsV L)) := by
  have hL := atL_vas (w := w) L
  refine .l a 43 3 n c (celsV L) (vaC L) (by rw [vaC_length, h.1]) (by rw [celsV_length, h.1]) h.2.1 (fun e => by cases e) ?_ hL.2
  rcases h.2.2 with h0 | ⟨b, o, rfl, hc⟩
  · exact .inl h0
  · refine .inr ⟨b, o, rfl, fun j hj => ?_⟩
    obtain ⟨i, r, hr, rfl⟩ : ∃ i r, r < 3 ∧ j = i * 3 + r := ⟨j / 3, j % 3, Nat.mod_lt _ (by decide), by omega⟩
    have hi : i < n := by omega
    obtain ⟨x, hx⟩ : ∃ x, L[i]? = some x := ⟨_, List.getElem?_eq_getElem (by have := h.1; omega)⟩
    obtain ⟨e0, e1, e2⟩ := hc i x hx
    obtain ⟨a0, a1, a2⟩ := vaC_at hx
    match r, hr with
    | 0, _ => exact e0.trans a0.symm
    | 1, _ => exact e1.trans a1.symm
    | 2, _ => exact e2.trans a2.symm
theorem eqValueS_vas (a b : Option Addr) (n c d : Nat) (L : List Va3) (w : World) (h : VasAt w a n L) (h' : VasAt w b n L) :
    Calls Try.prog 36 #[.slice a n c, .slice b n d] w fun e w' => e = .returned (.bool true) ∧ Below w.heap.size w w' :=
  dEqValueS _ _ n (celsV L) w (at_vas h) (at_vas h') (has_vas L n h.1)
/-- Bytes that came in, one by one. -/
theorem bys_of {w : World} {p : Nat} {a : Option Addr} {n : Nat} (h : BytesAt w p a n) (hn : n ≤ 2097152) : ∃ l, BysAt w a n l := by
  rcases h with h0 | ⟨b, o, rfl, _, hc⟩
  · subst h0
    exact ⟨[], rfl, hn, .inl rfl⟩
  · refine ⟨(List.range n).map fun j => match w.cell? ⟨b, o + j, none⟩ with | some (.int .u8 z) => UInt8.ofNat z.toNat | _ => 0, by simp, hn, .inr ⟨b, o, rfl, fun i x hi => ?_⟩⟩
    have hin : i < n := by have := (List.getElem?_eq_some_iff.1 hi).1; simpa using this
    obtain ⟨z, hz, hcell⟩ := hc i hin
    simp [hin, hcell] at hi
    rw [hcell, ← hi]
    have e : (UInt8.ofNat z).toNat = z := u8_nat (by omega)
    rw [e]
end Go.Proofs.Ytmgofehafjogfaa
