/- Texts joined: ImplHow, AfterOk, KeyOk, SpecOp, AfterD, Jud, JudL, SpecTh, SpecCa, SpecCs, SpecLi, Ended, ImplAh, DatS, DatT, DatU, DatV. -/
import Derived.Test.YtecheopkfhfgkaaAH03
import Derived.Test.YtecheopkfhfgkaaRows
import Derived.WalkKit
import Derived.ProofKit
import Derived.Test.YtecheopkfhfgkaaAH02
import Derived.Test.YtecheopkfhfgkaaAH01
import Derived.Handy
import Derived.Deep.RegionHeld3
import Derived.Deep.Cut
set_option maxHeartbeats 4000000
set_option maxRecDepth 100000
namespace Go.Proofs.Ytecheopkfhfgkaa
section
open Go.ChangeShapes Go.WideShapes Go.ChangeAt Go.RowKit Go.Maps
theorem posK_four (xs : List Int) (v : Int) : posK xs 4 v = (if xs.getD 0 0 = v then [0] else []) ++ (if xs.getD 1 0 = v then [1] else []) ++ (if xs.getD 2 0 = v then [2] else []) ++ (if xs.getD 3 0 = v then [3] else []) := by
 have h : ∀ k : Nat, posK xs (k + 1) v = posK xs k v ++ (if xs.getD k 0 = v then [(k : Int)] else []) := fun k => by
   split
   · exact posK_same (by assumption)
   · rw [posK_other (by assumption), List.append_nil]
 rw [h 3, h 2, h 1, h 0, posK_zero]
 rfl
theorem posK_len (xs : List Int) (v : Int) : ((posK xs 4 v).length : Int) = (if xs.getD 0 0 = v then 1 else 0) + (if xs.getD 1 0 = v then 1 else 0) + (if xs.getD 2 0 = v then 1 else 0) + (if xs.getD 3 0 = v then 1 else 0) := by
 rw [posK_four]
 split <;> split <;> split <;> split <;> rfl
def mkH (left : Lit → Bool) (x : Int) : Int := if left (.int .i64 x) = true then 0 else x
def cntH (xs : List Int) (left : Lit → Bool) (c : Int) : Int := bitW (mkH left (xs.getD 0 0)) c + bitW (mkH left (xs.getD 1 0)) c + bitW (mkH left (xs.getD 2 0)) c + bitW (mkH left (xs.getD 3 0)) c
end
theorem four_of {xs : List Int} (h : xs.length = 4) : ∃ y0 y1 y2 y3, xs = [y0, y1, y2, y3] := by
 match xs, h with
 | [y0, y1, y2, y3], _ => exact ⟨y0, y1, y2, y3, rfl⟩
def OkFour (y0 y1 y2 y3 : Int) : Prop :=
 (y0 = 0 ∨ (1 ≤ y0 ∧ y0 ≤ 6)) ∧ (y1 = 0 ∨ (1 ≤ y1 ∧ y1 ≤ 6)) ∧ (y2 = 0 ∨ (1 ≤ y2 ∧ y2 ≤ 6)) ∧ (y3 = 0 ∨ (1 ≤ y3 ∧ y3 ≤ 6))
 ∧ (y0 = 0 ∨ (y0 ≠ y1 ∧ y0 ≠ y2 ∧ y0 ≠ y3)) ∧ (y1 = 0 ∨ (y1 ≠ y2 ∧ y1 ≠ y3)) ∧ (y2 = 0 ∨ y2 ≠ y3)
theorem good_len {xs : List Int} {x : Int} (h : Good xs x) : (1 ≤ x ∧ x ≤ 6) ∧ (if xs.getD 0 0 = x then 1 else 0) + (if xs.getD 1 0 = x then 1 else 0) + (if xs.getD 2 0 = x then 1 else 0) + (if xs.getD 3 0 = x then 1 else 0) ≤ (1 : Int) := by
 have h2 := h.2
 rw [← posK_len]
 exact ⟨h.1, by omega⟩
theorem posK_ne {xs : List Int} {x : Int} (h : xs.getD 0 0 = x ∨ xs.getD 1 0 = x ∨ xs.getD 2 0 = x ∨ xs.getD 3 0 = x) : posK xs 4 x ≠ [] := by
 intro e
 have hl := posK_len xs x
 rw [e] at hl
 simp only [List.length_nil] at hl
 rcases h with h | h | h | h <;> simp only [h, if_true] at hl <;> (repeat' split at hl) <;> omega
theorem okFour_iff (y0 y1 y2 y3 st : Int) : OkRows [y0, y1, y2, y3] st ↔ ((0 ≤ st ∧ st ≤ 5) ∧ OkFour y0 y1 y2 y3) := by
 constructor
 · rintro ⟨_, h0, h1, h⟩
   refine ⟨⟨h0, h1⟩, ?_⟩
   have g : ∀ x, x ≠ 0 → (y0 = x ∨ y1 = x ∨ y2 = x ∨ y3 = x) → (1 ≤ x ∧ x ≤ 6) ∧ (if y0 = x then 1 else 0) + (if y1 = x then 1 else 0) + (if y2 = x then 1 else 0) + (if y3 = x then 1 else 0) ≤ (1 : Int) := fun x hx hh => good_len (h x hx (posK_ne (by simpa using hh)))
   have g0 := g y0
   have g1 := g y1
   have g2 := g y2
   have g3 := g y3
   unfold OkFour
   clear g h
   simp only [true_or, or_true, if_true, forall_const] at g0 g1 g2 g3
   refine ⟨?_, ?_, ?_, ?_, ?_, ?_, ?_⟩
   · rcases Decidable.em (y0 = 0) with e | e
     · exact .inl e
     · exact .inr (g0 e).1
   · rcases Decidable.em (y1 = 0) with e | e
     · exact .inl e
     · exact .inr (g1 e).1
   · rcases Decidable.em (y2 = 0) with e | e
     · exact .inl e
     · exact .inr (g2 e).1
   · rcases Decidable.em (y3 = 0) with e | e
     · exact .inl e
     · exact .inr (g3 e).1
   · rcases Decidable.em (y0 = 0) with e | e
     · exact .inl e
     · have q := (g0 e).2
       refine .inr ⟨?_, ?_, ?_⟩ <;> (intro e2; simp only [← e2, if_true] at q; (repeat' split at q) <;> omega)
   · rcases Decidable.em (y1 = 0) with e | e
     · exact .inl e
     · have q := (g1 e).2
       refine .inr ⟨?_, ?_⟩ <;> (intro e2; simp only [← e2, if_true] at q; (repeat' split at q) <;> omega)
   · rcases Decidable.em (y2 = 0) with e | e
     · exact .inl e
     · have q := (g2 e).2
       refine .inr ?_
       intro e2; simp only [← e2, if_true] at q; (repeat' split at q) <;> omega
 · rintro ⟨⟨h0, h1⟩, h⟩
   refine ⟨rfl, h0, h1, fun x hx hp => ?_⟩
   unfold OkFour at h
   have hmem : y0 = x ∨ y1 = x ∨ y2 = x ∨ y3 = x := by
     rcases Decidable.em (y0 = x ∨ y1 = x ∨ y2 = x ∨ y3 = x) with e | e
     · exact e
     · exfalso
       apply hp
       rw [posK_four]
       simp only [not_or] at e
       simp [e]
   refine ⟨by omega, ?_⟩
   have hl := posK_len [y0, y1, y2, y3] x
   simp only [List.getD_cons_zero, List.getD_cons_succ] at hl
   have : ((posK [y0, y1, y2, y3] 4 x).length : Int) ≤ 1 := by
     rw [hl]
     (repeat' split) <;> omega
   omega
theorem keyN_lt {y0 y1 y2 y3 v : Int} (h : keyN [y0, y1, y2, y3] v < 0) : y0 ≠ v ∧ y1 ≠ v ∧ y2 ≠ v ∧ y3 ≠ v := by
 unfold keyN at h
 simp only [List.getD_cons_zero, List.getD_cons_succ] at h
 (repeat' split at h) <;> first | omega | (refine ⟨?_, ?_, ?_, ?_⟩ <;> assumption)
theorem keyN_eq {y0 y1 y2 y3 v k : Int} (h : keyN [y0, y1, y2, y3] v = k) (hk : 0 ≤ k) : (k = 0 ∧ y0 = v) ∨ (k = 1 ∧ y1 = v) ∨ (k = 2 ∧ y2 = v) ∨ (k = 3 ∧ y3 = v) := by
 unfold keyN at h
 simp only [List.getD_cons_zero, List.getD_cons_succ] at h
 (repeat' split at h) <;> omega
theorem after_ok {xs : List Int} {st kind k v : Int} {ys zs : List Int} {st' : Int} (hA : AllowM xs st kind k v 0 ys) (h : AfterM xs st kind k v 0 ys zs st') : OkRows zs st' := by
 rcases h with ⟨_, _, h⟩ | ⟨h, _⟩
 case inr => exact absurd ⟨hA, rfl⟩ h
 obtain ⟨hok, hop, hA⟩ := hA
 rcases hA with ⟨h0, _⟩ | ⟨_, hD, _⟩
 · exact absurd rfl h0
 obtain ⟨y0, y1, y2, y3, rfl⟩ := four_of hok.1
 have hf := (okFour_iff y0 y1 y2 y3 st).1 hok
 obtain ⟨hk, hkey, hval⟩ := hop
 unfold KeyGood at hkey
 unfold ValGood at hval
 unfold DoneM atK at hD
 rcases h with ⟨hkd, rfl, rfl⟩ | ⟨hkd, rfl, rfl⟩ | ⟨hkd, rfl, rfl⟩ | ⟨hkd, rfl, rfl⟩
 · have hk4 : 0 ≤ k ∧ k ≤ 3 := by omega
   have hv : 1 ≤ v ∧ v ≤ 6 := by omega
   have hcase : (keyN [y0, y1, y2, y3] v < 0) ∨ keyN [y0, y1, y2, y3] v = k := by omega
   have hne : (k = 0 ∨ y0 ≠ v) ∧ (k = 1 ∨ y1 ≠ v) ∧ (k = 2 ∨ y2 ≠ v) ∧ (k = 3 ∨ y3 ≠ v) := by
     rcases hcase with h1 | h1
     · have := keyN_lt h1; omega
     · have e := keyN_eq h1 hk4.1
       obtain ⟨_, hf2⟩ := hf
       unfold OkFour at hf2
       omega
   clear hD hcase hkey hval hk hkd hok
   obtain ⟨hst, hf⟩ := hf
   unfold OkFour at hf
   rcases (show k = 0 ∨ k = 1 ∨ k = 2 ∨ k = 3 by omega) with rfl | rfl | rfl | rfl
   · show OkRows [v, y1, y2, y3] _
     rw [okFour_iff]
     refine ⟨hst, ?_⟩
     have n : y1 ≠ v ∧ y2 ≠ v ∧ y3 ≠ v := by omega
     clear hne
     unfold OkFour
     refine ⟨?_, ?_, ?_, ?_, ?_, ?_, ?_⟩ <;> omega
   · show OkRows [y0, v, y2, y3] _
     rw [okFour_iff]
     refine ⟨hst, ?_⟩
     have n : y0 ≠ v ∧ y2 ≠ v ∧ y3 ≠ v := by omega
     clear hne
     unfold OkFour
     refine ⟨?_, ?_, ?_, ?_, ?_, ?_, ?_⟩ <;> omega
   · show OkRows [y0, y1, v, y3] _
     rw [okFour_iff]
     refine ⟨hst, ?_⟩
     have n : y0 ≠ v ∧ y1 ≠ v ∧ y3 ≠ v := by omega
     clear hne
     unfold OkFour
     refine ⟨?_, ?_, ?_, ?_, ?_, ?_, ?_⟩ <;> omega
   · show OkRows [y0, y1, y2, v] _
     rw [okFour_iff]
     refine ⟨hst, ?_⟩
     have n : y0 ≠ v ∧ y1 ≠ v ∧ y2 ≠ v := by omega
     clear hne
     unfold OkFour
     refine ⟨?_, ?_, ?_, ?_, ?_, ?_, ?_⟩ <;> omega
 · have hk4 : 0 ≤ k ∧ k ≤ 3 := by omega
   clear hD hkey hval hk hkd hok
   obtain ⟨hst, hf⟩ := hf
   unfold OkFour at hf
   rcases (show k = 0 ∨ k = 1 ∨ k = 2 ∨ k = 3 by omega) with rfl | rfl | rfl | rfl
   · show OkRows [0, y1, y2, y3] _
     rw [okFour_iff]
     refine ⟨hst, ?_⟩
     unfold OkFour
     refine ⟨?_, ?_, ?_, ?_, ?_, ?_, ?_⟩ <;> omega
   · show OkRows [y0, 0, y2, y3] _
     rw [okFour_iff]
     refine ⟨hst, ?_⟩
     unfold OkFour
     refine ⟨?_, ?_, ?_, ?_, ?_, ?_, ?_⟩ <;> omega
   · show OkRows [y0, y1, 0, y3] _
     rw [okFour_iff]
     refine ⟨hst, ?_⟩
     unfold OkFour
     refine ⟨?_, ?_, ?_, ?_, ?_, ?_, ?_⟩ <;> omega
   · show OkRows [y0, y1, y2, 0] _
     rw [okFour_iff]
     refine ⟨hst, ?_⟩
     unfold OkFour
     refine ⟨?_, ?_, ?_, ?_, ?_, ?_, ?_⟩ <;> omega
 · rw [okFour_iff]
   refine ⟨?_, hf.2⟩
   omega
 · exact hok
section
open Go.ChangeShapes Go.WideShapes Go.ChangeAt Go.RowKit


def DoneSays (e : Ending) (w' : World) (zs : List Int) (b : Bool) : Prop := ∃ (a' : Option Addr) (c' : Nat), e = .returned (.tuple #[.slice a' zs.length c', .bool b]) ∧ IntAt w' a' zs.length zs
def Args (w : World) (ra oa sa : Array Value) (wr : World) : Prop :=
 (∀ i u, ra[i]? = some u → wr.cell? ⟨w.heap.size, i, none⟩ = some u) ∧ (∀ i u, oa[i]? = some u → wr.cell? ⟨w.heap.size + 1, i, none⟩ = some u) ∧ (∀ i u, sa[i]? = some u → wr.cell? ⟨w.heap.size + 1 + 1, i, none⟩ = some u)
def Four (w : World) (ra oa sa va : Array Value) (wr : World) : Prop :=
 (∀ i u, ra[i]? = some u → wr.cell? ⟨w.heap.size, i, none⟩ = some u) ∧ (∀ i u, oa[i]? = some u → wr.cell? ⟨w.heap.size + 1, i, none⟩ = some u) ∧ (∀ i u, sa[i]? = some u → wr.cell? ⟨w.heap.size + 1 + 1, i, none⟩ = some u)
   ∧ (∀ i u, va[i]? = some u → wr.cell? ⟨w.heap.size + 1 + 1 + 1, i, none⟩ = some u) ∧ (∀ i, wr.frozen? ⟨w.heap.size + 1 + 1 + 1, i, none⟩ = false)
def AfterSays (e : Ending) (w w' : World) (n : Nat) (A : List Int → Int → Prop) : Prop :=
 ∃ (zs : List Int) (st' : Int) (a' : Option Addr) (c' : Nat), e = .returned (.agg #[.slice a' n c', .int .i64 st']) ∧ A zs st' ∧ w'.ownsRow w.heap.size 3 1 (.slice a' n c') n (zs.map I)
end
section
open Go.ChangeShapes Go.WideShapes Go.ChangeAt Go.RowKit Go.Joins
def resD (r : List Cel) : List Int := nums (listC (nthC r 8))
def rsD (cs : List Cel) : Nat → List Int := fun i => resD (row (listC (nthC cs 4)) 9 i)
def CasR (w : World) (a : Option Addr) (n : Nat) (f : Nat → CaD) (rs : Nat → List Int) : Prop :=
 n = 0 ∨ ∃ b o, a = some ⟨b, o, none⟩ ∧ ∀ i, i < n → ∃ ra rn rc, CaC w b (o + i * 9) (f i) (.slice ra rn rc) ∧ IntAt w ra rn (rs i)
theorem CasR.below {w w' : World} {a : Option Addr} {n : Nat} {f : Nat → CaD} {rs : Nat → List Int} (h : CasR w a n f rs) {B : Nat} (hb : Below B w w') (hB : w.heap.size ≤ B) : CasR w' a n f rs := by
 obtain h2 | ⟨b, o, h3, h4⟩ := h
 · exact .inl h2
 · refine .inr ⟨b, o, h3, fun i hi => ?_⟩
   obtain ⟨ra, rn, rc, h5, h6⟩ := h4 i hi
   exact ⟨ra, rn, rc, h5.below hb hB, h6.below hb hB⟩
def calN (M : MaD) (i : Nat) : Nat := (M.os.getD i 0).toNat
def AlwJ (M : MaD) (rs : Nat → List Int) (i : Nat) (xs : List Int) (st : Int) : Prop := AllowM xs st (M.f (calN M i)).kd (M.f (calN M i)).k (M.f (calN M i)).v (M.f (calN M i)).cd (rs (calN M i))
def ReplM (M : MaD) (rs : Nat → List Int) : Nat → List Int → Int → Prop
 | 0, xs, st => xs = M.hs ∧ st = M.st
 | i + 1, xs, st => ∃ xs0 st0, ReplM M rs i xs0 st0 ∧ AfterM xs0 st0 (M.f (calN M i)).kd (M.f (calN M i)).k (M.f (calN M i)).v (M.f (calN M i)).cd (rs (calN M i)) xs st
theorem ReplM.one {M : MaD} {rs : Nat → List Int} : ∀ {i : Nat} {xs ys : List Int} {s t : Int}, ReplM M rs i xs s → ReplM M rs i ys t → xs = ys ∧ s = t
 | 0, _, _, _, _, h, g => ⟨h.1.trans g.1.symm, h.2.trans g.2.symm⟩
 | i + 1, _, _, _, _, h, g => by
   obtain ⟨x0, s0, h0, h1⟩ := h
   obtain ⟨y0, t0, g0, g1⟩ := g
   obtain ⟨rfl, rfl⟩ := ReplM.one h0 g0
   exact h1.one g1
def SoM (M : MaD) (rs : Nat → List Int) (n : Nat) : Prop := ∀ i, i < n → ∀ xs st, ReplM M rs i xs st → AlwJ M rs i xs st
theorem SoM.succ {M : MaD} {rs : Nat → List Int} {n : Nat} {xs : List Int} {st : Int} (h : ReplM M rs n xs st) : SoM M rs (n + 1) ↔ SoM M rs n ∧ AlwJ M rs n xs st := by
 constructor
 · intro g
   exact ⟨fun i hi => g i (by omega), g n (by omega) _ _ h⟩
 · rintro ⟨g1, g2⟩ i hi ys t hy
   by_cases hn : i < n
   · exact g1 i hn ys t hy
   · obtain rfl : i = n := by omega
     obtain ⟨rfl, rfl⟩ := hy.one h
     exact g2
theorem after_rows {xs : List Int} {st kind k v code : Int} {ys zs : List Int} {st' : Int} (ho : OkRows xs st) (h : AfterM xs st kind k v code ys zs st') : OkRows zs st' := by
 by_cases hA : AllowM xs st kind k v code ys ∧ code = 0
 · obtain ⟨hA, rfl⟩ := hA
   exact after_ok hA h
 · rcases h with ⟨h1, h2, _⟩ | ⟨_, rfl, rfl⟩
   · exact absurd ⟨h1, h2⟩ hA
   · exact ho
theorem ReplM.ok {M : MaD} {rs : Nat → List Int} (ho : OkRows M.hs M.st) : ∀ {i : Nat} {xs : List Int} {st : Int}, ReplM M rs i xs st → OkRows xs st
 | 0, _, _, h => by obtain ⟨rfl, rfl⟩ := h; exact ho
 | i + 1, _, _, h => by
   obtain ⟨x0, s0, h0, h1⟩ := h
   exact after_rows (ReplM.ok ho h0) h1
def JSo (M : MaD) (rs : Nat → List Int) : Prop := MachGood M ∧ SoM M rs M.no
def AheadM (a b : CaD) : Bool := decide (0 ≤ a.en) && decide (a.en < b.st)
def FreeM (f : Nat → CaD) (m : Nat) (u : Nat → Bool) (k : Nat) : Prop := ∀ i, i < m → i ≠ k → u i = false → AheadM (f i) (f k) = false
def takeM (u : Nat → Bool) (k : Nat) : Nat → Bool := fun i => u i || decide (i = k)
def NextL (f : Nat → CaD) (rs : Nat → List Int) (m : Nat) (u : Nat → Bool) (xs : List Int) (st : Int) (k : Nat) : Prop := u k = false ∧ FreeM f m u k ∧ AllowM xs st (f k).kd (f k).k (f k).v (f k).cd (rs k)
def GoM (f : Nat → CaD) (rs : Nat → List Int) (m : Nat) : Nat → (Nat → Bool) → List Int → Int → Prop
 | 0, _, _, _ => True
 | l + 1, u, xs, st => ∃ k, k < m ∧ NextL f rs m u xs st k ∧ ∃ ys s, AfterM xs st (f k).kd (f k).k (f k).v (f k).cd (rs k) ys s ∧ GoM f rs m l (takeM u k) ys s
def ByM (f : Nat → CaD) (rs : Nat → List Int) (m l : Nat) (u : Nat → Bool) (xs : List Int) (st : Int) (k : Nat) : Prop := NextL f rs m u xs st k ∧ ∃ ys s, AfterM xs st (f k).kd (f k).k (f k).v (f k).cd (rs k) ys s ∧ GoM f rs m l (takeM u k) ys s
structure But (g : Nat) (w w' : World) : Prop where
 blw : Below g w w'
 rest : ∀ x, x < w.heap.size → x ≠ g → w'.heap[x]? = w.heap[x]?
theorem But.refl (g : Nat) (w : World) : But g w w := ⟨Below.refl _ _, fun _ _ _ => rfl⟩
theorem But.trans {g : Nat} {w w1 w2 : World} (h : But g w w1) (k : But g w1 w2) : But g w w2 := ⟨h.blw.trans k.blw, fun x hx hg => (k.rest x (Nat.lt_of_lt_of_le hx h.blw.size) hg).trans (h.rest x hx hg)⟩
theorem But.of {g : Nat} {w w' : World} (h : Below w.heap.size w w') (hg : g ≤ w.heap.size) : But g w w' := ⟨h.mono hg, fun x hx _ => h.block x hx⟩
theorem But.put {g : Nat} {w w' : World} (h : But g w w') (i : Nat) (v : Value) : But g w (w'.setCell ⟨g, i, none⟩ v) := by
 refine ⟨h.blw.setCell (Nat.le_refl _) v, fun x hx hg => ?_⟩
 rw [← h.rest x hx hg]
 show (w'.heap.modify g _)[x]? = _
 rw [Array.getElem?_modify, if_neg (fun e => hg e.symm)]
theorem But.box {g b : Nat} {w w' : World} {cs : Array Value} {T : TypeId} (h : But g w w') (hB : Box w b cs T) (hb : b ≠ g) : Box w' b cs T := (h.rest b hB.lt hb).trans hB
def UsedAt (w : World) (g m : Nat) (u : Nat → Bool) : Prop := ∃ A : Array Value, Box w g A 4 ∧ A.size = m ∧ ∀ j, j < m → A[j]? = some (.bool (u j))
theorem UsedAt.lt {w : World} {g m : Nat} {u : Nat → Bool} (h : UsedAt w g m u) : g < w.heap.size := let ⟨_, h, _⟩ := h; h.lt
theorem UsedAt.at_ {w : World} {g m : Nat} {u : Nat → Bool} (h : UsedAt w g m u) {j : Nat} (hj : j < m) : w.cell? ⟨g, j, none⟩ = some (.bool (u j)) := let ⟨_, h, _, h2⟩ := h; (h.cell j).trans (h2 j hj)
theorem UsedAt.below {w w' : World} {g m : Nat} {u : Nat → Bool} (h : UsedAt w g m u) {B : Nat} (hb : Below B w w') (hB : w.heap.size ≤ B) : UsedAt w' g m u := let ⟨A, h, h2⟩ := h; ⟨A, h.below hb (Nat.lt_of_lt_of_le h.lt hB), h2⟩
theorem UsedAt.put {w : World} {g m k : Nat} {u v : Nat → Bool} {b : Bool} (h : UsedAt w g m u) (hk : k < m) (hb : v k = b) (hv : ∀ i, i ≠ k → v i = u i) : UsedAt (w.setCell ⟨g, k, none⟩ (.bool b)) g m v := by
 obtain ⟨A, h, h1, h2⟩ := h
 refine ⟨_, h.put k (.bool b), by simpa using h1, fun j hj => ?_⟩
 by_cases e : k = j
 · subst e
   rw [Array.getElem?_setIfInBounds_self_of_lt (by omega), hb]
 · rw [Array.getElem?_setIfInBounds_ne e, h2 j hj, hv j (fun h => e h.symm)]
theorem UsedAt.take {w : World} {g m k : Nat} {u : Nat → Bool} (h : UsedAt w g m u) (hk : k < m) : UsedAt (w.setCell ⟨g, k, none⟩ (.bool true)) g m (takeM u k) := h.put hk (by simp [takeM]) (fun i hi => by simp [takeM, hi])
end
section
open Go.ChangeShapes Go.WideShapes Go.ChangeAt Go.RowKit
abbrev ThV5 (a0 : Option Addr) (c0 : Nat) (a1 : Option Addr) (c1 : Nat) (a2 : Option Addr) (c2 : Nat) (t : ThD) : Value := .agg #[.slice a0 t.n0 c0, .int .i64 t.pc, .bool t.on, .slice a1 t.n1 c1, .slice a2 t.n2 c2]


theorem spec_ahead (a b : CaD) (va vb : Value) (w : World) : Calls Try.prog 6 #[CaV a va, CaV b vb] w fun e w' => e = .returned (.bool (AheadM a b)) ∧ Below w.heap.size w w' := by
 obtain ⟨x0, x1, x2, x3, x4, x5, x6, x7⟩ := a
 obtain ⟨y0, y1, y2, y3, y4, y5, y6, y7⟩ := b
 have hb : Below w.heap.size w ((w.alloc (.cells #[.int .i64 x0, .int .i64 x1, .int .i64 x2, .int .i64 x3, .int .i64 x4, .int .i64 x5, .int .i64 x6, .int .i64 x7, va] 34)).alloc (.cells #[.int .i64 y0, .int .i64 y1, .int .i64 y2, .int .i64 y3, .int .i64 y4, .int .i64 y5, .int .i64 y6, .int .i64 y7, vb] 34)) := ((Below.refl _ w).alloc (Nat.le_refl _) _).alloc (by simp) _
 have HB : Hid (Below w.heap.size w ((w.alloc (.cells #[.int .i64 x0, .int .i64 x1, .int .i64 x2, .int .i64 x3, .int .i64 x4, .int .i64 x5, .int .i64 x6, .int .i64 x7, va] 34)).alloc (.cells #[.int .i64 y0, .int .i64 y1, .int .i64 y2, .int .i64 y3, .int .i64 y4, .int .i64 y5, .int .i64 y6, .int .i64 y7, vb] 34))) := hb
 show Calls Try.prog 6 #[.agg #[.int .i64 x0, .int .i64 x1, .int .i64 x2, .int .i64 x3, .int .i64 x4, .int .i64 x5, .int .i64 x6, .int .i64 x7, va], .agg #[.int .i64 y0, .int .i64 y1, .int .i64 y2, .int .i64 y3, .int .i64 y4, .int .i64 y5, .int .i64 y6, .int .i64 y7, vb]] w fun e w' => e = .returned (.bool (decide (0 ≤ x6) && decide (x6 < y4))) ∧ Below w.heap.size w w'
 clear hb
 by_cases h : 0 ≤ x6
 · rw [decide_eq_true h]
   go_enter Try.func6, Try.ntmps6
   go_wp2
   go_ret
   exact ⟨by simp, HB.out⟩
 · rw [decide_eq_false h]
   go_enter Try.func6, Try.ntmps6
   go_wp2
   go_ret
   exact ⟨by simp, HB.out⟩
theorem impl_ended (c : CaD) (v : Value) (w : World) : Calls Try.prog 22 #[CaV c v] w fun e w' => e = .returned (.bool (decide (0 ≤ c.en))) ∧ Below w.heap.size w w' := by
 obtain ⟨t, kd, k, vv, st, ln, en, cd⟩ := c
 have HB : Hid (Below w.heap.size w (w.alloc (.cells #[.int .i64 t, .int .i64 kd, .int .i64 k, .int .i64 vv, .int .i64 st, .int .i64 ln, .int .i64 en, .int .i64 cd, v] 34))) := (Below.refl _ w).alloc (Nat.le_refl _) _
 by_cases h : 0 ≤ en
 · have h' : decide (0 ≤ en) = true := decide_eq_true h
   show Calls Try.prog 22 #[.agg #[.int .i64 t, .int .i64 kd, .int .i64 k, .int .i64 vv, .int .i64 st, .int .i64 ln, .int .i64 en, .int .i64 cd, v]] w fun e w' => e = .returned (.bool (decide (0 ≤ en))) ∧ Below w.heap.size w w'
   rw [h']
   go_enter Try.func22, Try.ntmps22
   go_wp2
   go_ret
   exact ⟨rfl, HB.out⟩
 · have h' : decide (0 ≤ en) = false := decide_eq_false h
   show Calls Try.prog 22 #[.agg #[.int .i64 t, .int .i64 kd, .int .i64 k, .int .i64 vv, .int .i64 st, .int .i64 ln, .int .i64 en, .int .i64 cd, v]] w fun e w' => e = .returned (.bool (decide (0 ≤ en))) ∧ Below w.heap.size w w'
   rw [h']
   go_enter Try.func22, Try.ntmps22
   go_wp2
   go_ret
   exact ⟨rfl, HB.out⟩
end
section
open Go.ChangeShapes Go.WideShapes Go.ChangeAt Go.RowKit Go.Joins
theorem nineA_of {w : World} {b : Nat} {v0 v1 v2 v3 v4 v5 v6 v7 v8 : Value} {T : TypeId} (h : Box w b #[v0, v1, v2, v3, v4, v5, v6, v7, v8] T) : w.cell? ⟨b, 0, none⟩ = some v0 ∧ w.cell? ⟨b, 1, none⟩ = some v1 ∧ w.cell? ⟨b, 2, none⟩ = some v2 ∧ w.cell? ⟨b, 3, none⟩ = some v3 ∧ w.cell? ⟨b, 4, none⟩ = some v4 ∧ w.cell? ⟨b, 5, none⟩ = some v5 ∧ w.cell? ⟨b, 6, none⟩ = some v6 ∧ w.cell? ⟨b, 7, none⟩ = some v7 ∧ w.cell? ⟨b, 8, none⟩ = some v8 ∧ w.frozen? ⟨b, 7, none⟩ = false ∧ w.frozen? ⟨b, 8, none⟩ = false := ⟨h.cell 0, h.cell 1, h.cell 2, h.cell 3, h.cell 4, h.cell 5, h.cell 6, h.cell 7, h.cell 8, h.frozen 7, h.frozen 8⟩
theorem impl_ahead (a b : CaD) (va vb : Value) (w : World) : Calls Try.prog 8 #[CaV a va, CaV b vb] w fun e w' => e = .returned (.bool (AheadM a b)) ∧ Below w.heap.size w w' := by
 obtain ⟨x0, x1, x2, x3, x4, x5, x6, x7⟩ := a
 obtain ⟨y0, y1, y2, y3, y4, y5, y6, y7⟩ := b
 obtain ⟨W, hW⟩ : ∃ W, (w.alloc (.cells #[.int .i64 x0, .int .i64 x1, .int .i64 x2, .int .i64 x3, .int .i64 x4, .int .i64 x5, .int .i64 x6, .int .i64 x7, va] 34)).alloc (.cells #[.int .i64 y0, .int .i64 y1, .int .i64 y2, .int .i64 y3, .int .i64 y4, .int .i64 y5, .int .i64 y6, .int .i64 y7, vb] 34) = W := ⟨_, rfl⟩
 have HB : Hid (Below w.heap.size w W) := by rw [← hW]; exact ((Below.refl _ w).alloc (Nat.le_refl _) _).alloc (by simp) _
 have XA : Hid (Box W w.heap.size #[.int .i64 x0, .int .i64 x1, .int .i64 x2, .int .i64 x3, .int .i64 x4, .int .i64 x5, .int .i64 x6, .int .i64 x7, va] 34) := by rw [← hW]; exact (box_of w _ _).alloc _
 have XB : Hid (Box W (w.heap.size + 1) #[.int .i64 y0, .int .i64 y1, .int .i64 y2, .int .i64 y3, .int .i64 y4, .int .i64 y5, .int .i64 y6, .int .i64 y7, vb] 34) := by
   have := box_of (w.alloc (.cells #[.int .i64 x0, .int .i64 x1, .int .i64 x2, .int .i64 x3, .int .i64 x4, .int .i64 x5, .int .i64 x6, .int .i64 x7, va] 34)) #[.int .i64 y0, .int .i64 y1, .int .i64 y2, .int .i64 y3, .int .i64 y4, .int .i64 y5, .int .i64 y6, .int .i64 y7, vb] 34
   rw [hW] at this
   show Box _ _ _ _
   simpa using this
 have HW : Hid ((w.alloc (.cells #[.int .i64 x0, .int .i64 x1, .int .i64 x2, .int .i64 x3, .int .i64 x4, .int .i64 x5, .int .i64 x6, .int .i64 x7, va] 34)).alloc (.cells #[.int .i64 y0, .int .i64 y1, .int .i64 y2, .int .i64 y3, .int .i64 y4, .int .i64 y5, .int .i64 y6, .int .i64 y7, vb] 34) = W) := hW
 clear hW
 show Calls Try.prog 8 #[.agg #[.int .i64 x0, .int .i64 x1, .int .i64 x2, .int .i64 x3, .int .i64 x4, .int .i64 x5, .int .i64 x6, .int .i64 x7, va], .agg #[.int .i64 y0, .int .i64 y1, .int .i64 y2, .int .i64 y3, .int .i64 y4, .int .i64 y5, .int .i64 y6, .int .i64 y7, vb]] w fun e w' => e = .returned (.bool (decide (0 ≤ x6) && decide (x6 < y4))) ∧ Below w.heap.size w w'
 by_cases h : 0 ≤ x6
 · have D6 : Hid (decide (0 ≤ x6) = true) := decide_eq_true h
   rw [D6.out]
   clear h
   go_enter Try.func8, Try.ntmps8
   go_wp2_with fail
   rw [HW.out]
   refine (impl_ended ⟨x0, x1, x2, x3, x4, x5, x6, x7⟩ va W).mono ?_
   rintro e w2 ⟨rfl, hb2⟩
   rw [show decide (0 ≤ (⟨x0, x1, x2, x3, x4, x5, x6, x7⟩ : CaD).en) = true from D6.out]
   have HB2 : Hid (Below w.heap.size w w2) := HB.out.trans (hb2.mono HB.out.size)
   obtain ⟨s0, s1, s2, s3, s4, s5, s6, s7, s8, _, _⟩ := nineA_of (XA.out.below hb2 XA.out.lt)
   obtain ⟨t0, t1, t2, t3, t4, t5, t6, t7, t8, _, _⟩ := nineA_of (XB.out.below hb2 XB.out.lt)
   clear hb2
   go_wp2
   go_ret
   exact ⟨by simp, HB2.out⟩
 · have D6 : Hid (decide (0 ≤ x6) = false) := decide_eq_false h
   rw [D6.out]
   clear h
   go_enter Try.func8, Try.ntmps8
   go_wp2_with fail
   rw [HW.out]
   refine (impl_ended ⟨x0, x1, x2, x3, x4, x5, x6, x7⟩ va W).mono ?_
   rintro e w2 ⟨rfl, hb2⟩
   rw [show decide (0 ≤ (⟨x0, x1, x2, x3, x4, x5, x6, x7⟩ : CaD).en) = false from D6.out]
   have HB2 : Hid (Below w.heap.size w w2) := HB.out.trans (hb2.mono HB.out.size)
   obtain ⟨s0, s1, s2, s3, s4, s5, s6, s7, s8, _, _⟩ := nineA_of (XA.out.below hb2 XA.out.lt)
   obtain ⟨t0, t1, t2, t3, t4, t5, t6, t7, t8, _, _⟩ := nineA_of (XB.out.below hb2 XB.out.lt)
   clear hb2
   go_wp2
   go_ret
   exact ⟨by simp, HB2.out⟩
theorem dSzIntS (v : Value) (n : Nat) (cs : List Cel) (left : Int) (w : World) (h : In w v (.l 3 1 n cs)) (hs : Has (.l 3 1 n cs) (.l 3 1 [.i])) (h0 : 0 ≤ left) (h1 : left ≤ 2097152) :
   Calls Try.prog 28 #[v, .int .i64 left] w (Left w (n + bigL cs) left) := by
 have hz := big_flat hs (by decide)
 obtain ⟨a, c, vs, rfl, -, -, hn, -, -⟩ := h.openL
 have HZ : Hid (n + bigL cs = n) := by show _ = _; omega
 clear hs hz
 by_cases hl : (n : Int) ≤ left
 · have h2 : ¬ (left - (n : Int) < 0) := by omega
   go_enter Try.func28, Try.ntmps28
   go_wp2
   go_ret
   refine ⟨Below.refl _ _, .inl ⟨_, rfl, ?_⟩⟩
   rw [HZ.out]
   exact ⟨hl, rfl⟩
 · have h2 : left - (n : Int) < 0 := by omega
   go_enter Try.func28, Try.ntmps28
   go_wp2
   go_ret
   refine ⟨Below.refl _ _, .inr ⟨rfl, ?_⟩⟩
   rw [HZ.out]
   omega
theorem dSzRes (vs : List Value) (cs : List Cel) (left : Int) (w : World) (h : InL w vs cs) (hs : HasL cs tyRes) (h0 : 0 ≤ left) (h1 : left ≤ 2097152) : Calls Try.prog 19 #[.agg vs.toArray, .int .i64 left] w (Left w (bigL cs) left) := by
 obtain ⟨c0, c1, rfl, T0, T1⟩ := hs.c2
 obtain ⟨v0, v1, rfl, A0, A1⟩ := h.c2
 obtain ⟨x0, rfl⟩ := T0.int
 obtain rfl := A0.int
 obtain ⟨n1, cs1, rfl, -⟩ := T1.list
 have HT1 : Hid (Has (.l 3 1 n1 cs1) (.l 3 1 [.i])) := T1
 have hA1' : Hid (In w v1 (.l 3 1 n1 cs1)) := A1
 clear hs h T0 A0 T1 A1
 obtain ⟨W, hW⟩ : ∃ W, w.alloc (.cells #[.int .i64 x0, v1] 26) = W := ⟨_, rfl⟩
 have t0 : Hid (One w W #[.int .i64 x0, v1] 26) := by rw [← hW]; exact one_new w _ _
 have HW : Hid _ := hW
 clear hW
 go_enter Try.func19, Try.ntmps19
 go_upto_region 1 with (fail)
 rw [HW.out]
 have ax0 := t0.out.a.at 0 (.int .i64 x0) rfl
 have ax1 := t0.out.a.at 1 (v1) rfl
 go_wp2_with fail
 refine (dSzIntS v1 n1 cs1 _ _ (hA1'.out.on t0.out.on (Nat.le_refl _)) HT1.out (by omega) (by omega)).mono ?_
 rintro e w1 ⟨hb, hc⟩
 obtain ⟨m1, hm1⟩ : ∃ m, n1 + bigL cs1 = m := ⟨_, rfl⟩
 rw [hm1] at hc
 have HM1 : Hid (n1 + bigL cs1 = m1) := hm1
 clear hm1
 have t1 : Hid (One w w1 #[.int .i64 x0, v1] 26) := t0.out.call hb
 clear hb ax0 ax1
 have ax0 := t1.out.a.at 0 (.int .i64 x0) rfl
 have ax1 := t1.out.a.at 1 (v1) rfl
 rcases hc with ⟨r1, rfl, hr1, hq1⟩ | ⟨rfl, hr1⟩
 rotate_left
 · go_wp2
   go_ret
   refine ⟨t1.out.on, .inr ⟨rfl, ?_⟩⟩
   have e : bigL [.i x0, .l 3 1 n1 cs1] = ((n1 + bigL cs1)) := by simp [bigL, Cel.big]; try omega
   rw [e]
   have e1 := HM1.out
   (try simp only [bigL, Cel.big] at *)
   omega
 have g1 : ¬ r1 < 0 := by omega
 go_wp2
 go_ret
 refine ⟨t1.out.on, .inl ⟨_, rfl, ?_⟩⟩
 have e : bigL [.i x0, .l 3 1 n1 cs1] = (n1 + bigL cs1) := by simp [bigL, Cel.big]; try omega
 rw [e]
 have e1 := HM1.out
 (try simp only [bigL, Cel.big] at *)
 omega
theorem dSzCall (vs : List Value) (cs : List Cel) (left : Int) (w : World) (h : InL w vs cs) (hs : HasL cs tyCall) (h0 : 0 ≤ left) (h1 : left ≤ 2097152) : Calls Try.prog 5 #[.agg vs.toArray, .int .i64 left] w (Left w (bigL cs) left) := by
 obtain ⟨c0, c1, c2, c3, c4, c5, c6, c7, c8, rfl, T0, T1, T2, T3, T4, T5, T6, T7, T8⟩ := hs.c9
 obtain ⟨v0, v1, v2, v3, v4, v5, v6, v7, v8, rfl, A0, A1, A2, A3, A4, A5, A6, A7, A8⟩ := h.c9
 obtain ⟨x0, rfl⟩ := T0.int
 obtain rfl := A0.int
 obtain ⟨x1, rfl⟩ := T1.int
 obtain rfl := A1.int
 obtain ⟨x2, rfl⟩ := T2.int
 obtain rfl := A2.int
 obtain ⟨x3, rfl⟩ := T3.int
 obtain rfl := A3.int
 obtain ⟨x4, rfl⟩ := T4.int
 obtain rfl := A4.int
 obtain ⟨x5, rfl⟩ := T5.int
 obtain rfl := A5.int
 obtain ⟨x6, rfl⟩ := T6.int
 obtain rfl := A6.int
 obtain ⟨x7, rfl⟩ := T7.int
 obtain rfl := A7.int
 obtain ⟨n8, cs8, rfl, -⟩ := T8.list
 have HT8 : Hid (Has (.l 3 1 n8 cs8) (.l 3 1 [.i])) := T8
 have hA8' : Hid (In w v8 (.l 3 1 n8 cs8)) := A8
 have HN1 : Hid (InL w [.int .i64 x1, .int .i64 x2, .int .i64 x3] [.i x1, .i x2, .i x3]) := InL.cons (.i x1) (InL.cons (.i x2) (InL.cons (.i x3) (InL.nil)))
 have HH1 : Hid (HasL [.i x1, .i x2, .i x3] tyOp) := ⟨rfl, fun j c t hc ht => by
   have hj : j < 3 := by have := (List.getElem?_eq_some_iff.1 hc).1; simpa using this
   rcases (show j = 0 ∨ j = 1 ∨ j = 2 by omega) with rfl | rfl | rfl <;> (simp [tyOp] at hc ht; subst hc ht)
   · exact .i x1
   · exact .i x2
   · exact .i x3⟩
 have HN7 : Hid (InL w [.int .i64 x7, v8] [.i x7, .l 3 1 n8 cs8]) := InL.cons (.i x7) (InL.cons (hA8'.out) (InL.nil))
 have HH7 : Hid (HasL [.i x7, .l 3 1 n8 cs8] tyRes) := ⟨rfl, fun j c t hc ht => by
   have hj : j < 2 := by have := (List.getElem?_eq_some_iff.1 hc).1; simpa using this
   rcases (show j = 0 ∨ j = 1 by omega) with rfl | rfl <;> (simp [tyRes] at hc ht; subst hc ht)
   · exact .i x7
   · exact HT8.out⟩
 clear hs h T0 A0 T1 A1 T2 A2 T3 A3 T4 A4 T5 A5 T6 A6 T7 A7 T8 A8
 obtain ⟨W, hW⟩ : ∃ W, w.alloc (.cells #[.int .i64 x0, .int .i64 x1, .int .i64 x2, .int .i64 x3, .int .i64 x4, .int .i64 x5, .int .i64 x6, .int .i64 x7, v8] 28) = W := ⟨_, rfl⟩
 have t0 : Hid (One w W #[.int .i64 x0, .int .i64 x1, .int .i64 x2, .int .i64 x3, .int .i64 x4, .int .i64 x5, .int .i64 x6, .int .i64 x7, v8] 28) := by rw [← hW]; exact one_new w _ _
 have HW : Hid _ := hW
 clear hW
 go_enter Try.func5, Try.ntmps5
 go_upto_region 1 with (fail)
 rw [HW.out]
 have ax0 := t0.out.a.at 0 (.int .i64 x0) rfl
 have ax1 := t0.out.a.at 1 (.int .i64 x1) rfl
 have ax2 := t0.out.a.at 2 (.int .i64 x2) rfl
 have ax3 := t0.out.a.at 3 (.int .i64 x3) rfl
 have ax4 := t0.out.a.at 4 (.int .i64 x4) rfl
 have ax5 := t0.out.a.at 5 (.int .i64 x5) rfl
 have ax6 := t0.out.a.at 6 (.int .i64 x6) rfl
 have ax7 := t0.out.a.at 7 (.int .i64 x7) rfl
 have ax8 := t0.out.a.at 8 (v8) rfl
 go_wp2_with fail
 refine (dSzRes [.int .i64 x7, v8] [.i x7, .l 3 1 n8 cs8] _ _ (HN7.out.on t0.out.on (Nat.le_refl _)) HH7.out (by omega) (by omega)).mono ?_
 rintro e w1 ⟨hb, hc⟩
 obtain ⟨m1, hm1⟩ : ∃ m, bigL [.i x7, .l 3 1 n8 cs8] = m := ⟨_, rfl⟩
 rw [hm1] at hc
 have HM1 : Hid (bigL [.i x7, .l 3 1 n8 cs8] = m1) := hm1
 clear hm1
 have t1 : Hid (One w w1 #[.int .i64 x0, .int .i64 x1, .int .i64 x2, .int .i64 x3, .int .i64 x4, .int .i64 x5, .int .i64 x6, .int .i64 x7, v8] 28) := t0.out.call hb
 clear hb ax0 ax1 ax2 ax3 ax4 ax5 ax6 ax7 ax8
 have ax0 := t1.out.a.at 0 (.int .i64 x0) rfl
 have ax1 := t1.out.a.at 1 (.int .i64 x1) rfl
 have ax2 := t1.out.a.at 2 (.int .i64 x2) rfl
 have ax3 := t1.out.a.at 3 (.int .i64 x3) rfl
 have ax4 := t1.out.a.at 4 (.int .i64 x4) rfl
 have ax5 := t1.out.a.at 5 (.int .i64 x5) rfl
 have ax6 := t1.out.a.at 6 (.int .i64 x6) rfl
 have ax7 := t1.out.a.at 7 (.int .i64 x7) rfl
 have ax8 := t1.out.a.at 8 (v8) rfl
 rcases hc with ⟨r1, rfl, hr1, hq1⟩ | ⟨rfl, hr1⟩
 rotate_left
 · go_wp2
   go_ret
   refine ⟨t1.out.on, .inr ⟨rfl, ?_⟩⟩
   have e : bigL [.i x0, .i x1, .i x2, .i x3, .i x4, .i x5, .i x6, .i x7, .l 3 1 n8 cs8] = ((n8 + bigL cs8)) := by simp [bigL, Cel.big]; try omega
   rw [e]
   have e1 := HM1.out
   (try simp only [bigL, Cel.big] at *)
   omega
 have g1 : ¬ r1 < 0 := by omega
 go_wp2
 go_ret
 refine ⟨t1.out.on, .inl ⟨_, rfl, ?_⟩⟩
 have e : bigL [.i x0, .i x1, .i x2, .i x3, .i x4, .i x5, .i x6, .i x7, .l 3 1 n8 cs8] = (n8 + bigL cs8) := by simp [bigL, Cel.big]; try omega
 rw [e]
 have e1 := HM1.out
 (try simp only [bigL, Cel.big] at *)
 omega
theorem dInfoInt : (Try.prog.info? 3).map (fun i => (i.zero, i.size)) = some (some (.int .i64 0), 1) := by kernel_rfl
theorem dBytesInt : (Try.prog.info? 3).map (fun i => decide (i.bytes ≤ 1024)) = some true := by kernel_rfl
theorem dToIntS (v : Value) (n : Nat) (cs : List Cel) (w : World) (h : At false w v (.l 3 1 n cs)) (hs : Has (.l 3 1 n cs) (.l 3 1 [.i])) :
   Calls Try.prog 34 #[v] w (Ret w (.l 3 1 n cs)) := by
 obtain ⟨a, c, vs, rfl, h1, h2, hn, -, h3, h4⟩ := h.openL
 have SRC : Hid (n = 0 ∨ ∃ b o, a = some ⟨b, o, none⟩ ∧ ∀ j, j < n * 1 → w.cell? ⟨b, o + j, none⟩ = vs[j]?) := h3
 have HV : Hid (∀ j, j < n → AtL false w ((vs.drop (j * 1)).take 1) (row cs 1 j)) := fun j hj => rowVals h1 h2 h4 hj
 have HR : Hid (∀ j, j < n → HasL (row cs 1 j) [.i]) := fun j hj => hs.rowL hj
 have L2 : Hid (cs.length = n * 1) := h2
 have L1 : Hid (vs.length = n * 1) := h1
 obtain ⟨i0, hi, hz⟩ := Option.map_eq_some_iff.1 dInfoInt
 obtain ⟨i1, hi', hb1⟩ := Option.map_eq_some_iff.1 dBytesInt
 obtain rfl : i0 = i1 := Option.some.inj (hi.symm.trans hi')
 have hz0 : i0.zero = some (.int .i64 0) := congrArg Prod.fst hz
 have hz1 : i0.size = 1 := congrArg Prod.snd hz
 have hz2 : i0.bytes ≤ 1024 := of_decide_eq_true hb1
 have hby : i0.bytes * n ≤ 1024 * 2097152 := Nat.mul_le_mul hz2 hn
 clear h h1 h2 h3 h4 hs hz hb1 hi'
 go_enter Try.func34, Try.ntmps34
 go_wp2_with (at_make; refine wpList_make_full _ rfl _ _ 24 rfl w.heap.size 3 i0 (.int .i64 0) 1 Try.underlying24 hi hz0 hz1 .i64 .i64 _ _ n rfl rfl rfl rfl (by first | omega | (rw [Nat.mul_comm]; omega)) (by unfold maxLen; omega) (Nat.le_refl _) ?_; intro w1 own1 grow1)
 obtain ⟨ps0, lp0, O0⟩ := own_made (zv := [.int .i64 0]) (zc := [.i 0]) own1 hn rfl (fun j v hv => made_at hv (by decide)) (by
   intro i v c hv hc w'
   have hi : i < 1 := by have := (List.getElem?_eq_some_iff.1 hv).1; simpa using this
   rcases (show i = 0 by omega) with rfl <;> (simp at hv hc; subst hv hc)
   · exact .i _ _ (fun _ h => h))
 have hb1 : Below w.heap.size w w1 := (Below.refl _ _).grown grow1 (Nat.le_refl _) (fun k e => by cases e)
 clear own1 grow1
 go_loopw [4] (fun i wr => ∃ j : Nat, j ≤ n ∧ i = .int .i64 (j : Int) ∧ (∃ ps S, ps.length = n * 1 ∧ ps.take (j * 1) = cs.take (j * 1) ∧ Own wr w.heap.size (.slice (some ⟨w.heap.size, 0, none⟩) n n) (.l 3 1 n ps) S) ∧ Below w.heap.size w wr) (fun i _ => n - (intOf i).toNat)
 case atStart => exact ⟨0, Nat.zero_le _, by simp, ⟨ps0, _, lp0, by simp, O0⟩, hb1⟩
 case round =>
   obtain ⟨j, hj, rfl, ⟨ps, S, lp, tp, ho⟩, hb⟩ := hrel
   clear O0 hb1 lp0
   by_cases hlt : j < n
   · rcases SRC.out with h0 | ⟨p1, o1, rfl, g1⟩
     · omega
     have hk0 : (0 : Int) ≤ (j : Int) := by omega
     have hk1 : (j : Int) < (n : Int) := by omega
     have hA := HV.out j hlt
     have hH := HR.out j hlt
     have hcv := rowAt hb hlt g1 L1.out
     obtain ⟨rs, hrs⟩ : ∃ rs, row cs 1 j = rs := ⟨_, rfl⟩
     obtain ⟨ws, hws⟩ : ∃ ws, (vs.drop (j * 1)).take 1 = ws := ⟨_, rfl⟩
     have HRS : Hid (row cs 1 j = rs) := hrs
     rw [hrs] at hA hH
     rw [hws] at hA hcv
     clear g1 hrs hws
     obtain ⟨c0, rfl, T0⟩ := hH.c1
     have HL0 : Hid (HasL [c0] [.i]) := hH
     obtain ⟨v0, rfl, A0⟩ := hA.c1
     have HA0 : Hid (AtL false w [v0] [c0]) := hA
     have e0 : wr.cell? ⟨p1, o1 + j * 1, none⟩ = some v0 := hcv 0 (by omega)
     clear hcv hA hH
     have HO : Hid (Own wr w.heap.size (.slice (some ⟨w.heap.size, 0, none⟩) n n) (.l 3 1 n ps) S) := ho
     clear ho
     obtain ⟨x0, rfl⟩ := T0.int
     obtain rfl := A0.int
     obtain ⟨pv, Sj, hc, hf, -⟩ := HO.out.cell (j := j * 1) (List.getElem?_eq_getElem (by omega))
     simp only [Nat.mul_one] at e0 hc hf
     have HRS' : Hid (row cs 1 j = [.i x0]) := HRS.out
     go_wp2
     go_roundw
     case rel =>
       obtain ⟨S'', o'', -⟩ := Own.storeL (us := [.int .i64 x0]) (rs := [.i x0]) (p := j * 1) HO.out (OwnL.cons (S0 := fun _ => False) (S := fun _ => False) (S' := fun _ => False) (.i x0 _ (fun _ h => h)) (OwnL.nil (fun _ h => h)) (fun _ h => h.elim) (fun _ => by simp)) (fun _ h => h.elim) (by simp; omega)
       have hle : j * 1 + 1 ≤ n * 1 := by omega
       refine ⟨j + 1, by omega, by go_num, ⟨_, S'', ?_, ?_, by simpa [stores] using o''⟩, by simpa [stores] using stores_below (Nat.le_refl _) [.int .i64 x0] wr (j * 1) hb⟩
       · rw [over_len]; exact lp
       · have h3 := over_take [.i x0] ps (j * 1) (by simp; omega)
         rw [row_split (cs := cs), HRS'.out, ← tp, show (j + 1) * 1 = j * 1 + ([.i x0] : List Cel).length by simp]
         simpa using h3
     case measure => simp [intOf]; omega
   · obtain rfl : j = n := by omega
     have e : ps = cs := by rwa [List.take_of_length_le (by omega), List.take_of_length_le (by have := L2.out; omega)] at tp
     subst e
     go_wp2
     go_ret
     exact ⟨hb, _, S, rfl, ho⟩
theorem dToOp (vs : List Value) (cs : List Cel) (w : World) (h : AtL false w vs cs) (hs : HasL cs tyOp) : Calls Try.prog 20 #[.agg vs.toArray] w (RetL w cs) := by
 obtain ⟨c0, c1, c2, rfl, T0, T1, T2⟩ := hs.c3
 obtain ⟨x0, rfl⟩ := T0.int
 obtain ⟨x1, rfl⟩ := T1.int
 obtain ⟨x2, rfl⟩ := T2.int
 obtain ⟨v0, v1, v2, rfl, A0, A1, A2⟩ := h.c3
 obtain rfl := A0.int
 obtain rfl := A1.int
 obtain rfl := A2.int
 obtain ⟨R, hR⟩ : ∃ R, Value.agg #[.int .i64 x0, .int .i64 x1, .int .i64 x2] = R := ⟨_, rfl⟩
 have HR : Hid (Value.agg #[.int .i64 x0, .int .i64 x1, .int .i64 x2] = R) := hR
 clear hR
 go_enter Try.func20, Try.ntmps20
 go_wp2
 (try simp only [Exit.inBlock, Exit.then])
 refine bodyPost_ret (by simp [results, Try.results20, go_sem]; try rfl) rfl ?_
 exact ⟨(((Below.refl _ _).alloc (Nat.le_refl _) _).alloc (by simp) _).alloc (by simp; omega) _, [.int .i64 x0, .int .i64 x1, .int .i64 x2], fun _ => False, rfl, OwnL.cons (S0 := fun _ => False) (S := fun _ => False) (.i x0 _ (fun _ h => h)) (OwnL.cons (S0 := fun _ => False) (S := fun _ => False) (.i x1 _ (fun _ h => h)) (OwnL.cons (S0 := fun _ => False) (S := fun _ => False) (.i x2 _ (fun _ h => h)) (OwnL.nil (fun _ h => h)) (fun _ h => h.elim) (fun _ => by simp)) (fun _ h => h.elim) (fun _ => by simp)) (fun _ h => h.elim) (fun _ => by simp)⟩
theorem dToRes (vs : List Value) (cs : List Cel) (w : World) (h : AtL false w vs cs) (hs : HasL cs tyRes) : Calls Try.prog 21 #[.agg vs.toArray] w (RetL w cs) := by
 obtain ⟨c0, c1, rfl, T0, T1⟩ := hs.c2
 obtain ⟨v0, v1, rfl, A0, A1⟩ := h.c2
 obtain ⟨x0, rfl⟩ := T0.int
 obtain rfl := A0.int
 have hA1' : Hid (At false w v1 c1) := A1
 obtain ⟨n1, cs1, rfl, -⟩ := T1.list
 have HT1 : Hid (Has (.l 3 1 n1 cs1) (.l 3 1 [.i])) := T1
 clear hs h T1 A1
 go_enter Try.func21, Try.ntmps21
 go_wp2_with fail
 have t0 := mk_new w #[.int .i64 x0, v1] #[.int .i64 0, .slice none 0 0] #[.int .i64 x0, .slice none 0 0] 26 32
 have m1 := (t0.num (v := .int .i64 x0) (c := .i x0) (fun _ => .i x0 _ (fun _ h => h)))
 refine (dToIntS v1 n1 cs1 _ (hA1'.out.on m1.b (Nat.le_refl _)) HT1.out).mono ?_
 rintro e w1 ⟨hb, u1, S1, rfl, ho⟩
 obtain ⟨q1, d1, rfl, -⟩ := ho.slice
 have m1' := m1.call1 hb ho
 have t1 : Hid (Mk w w1 #[.int .i64 x0, v1] #[.int .i64 0, .slice none 0 0] #[.int .i64 x0, .slice none 0 0] 26 32 _) := m1'
 have ax1_0 := t1.out.a.at 0 (.int .i64 x0) rfl
 have cx1_0 := t1.out.c.at 0 (.int .i64 x0) rfl
 have fx1_0 := t1.out.c.frozen 0
 have ax1_1 := t1.out.a.at 1 (v1) rfl
 have cx1_1 := t1.out.c.at 1 (.slice none 0 0) rfl
 have fx1_1 := t1.out.c.frozen 1
 have zx1_0 := t1.out.z.at 0 (.int .i64 0) rfl
 have gx1_0 := t1.out.z.frozen 0
 have zx1_1 := t1.out.z.at 1 (.slice none 0 0) rfl
 have gx1_1 := t1.out.z.frozen 1
 clear m1 m1' hb ho t0
 go_wp2
 (try simp only [Exit.inBlock, Exit.then])
 refine bodyPost_ret (by simp [results, Try.results21, go_sem, zx1_0, zx1_1]; try rfl) rfl ?_
 have m := (((t1.out.store 1 ((.slice q1 n1 d1))).storeZ 0 (.int .i64 x0)).storeZ 1 ((.slice q1 n1 d1)))
 exact ⟨m.b, [.int .i64 x0, (.slice q1 n1 d1)], _, rfl, m.all⟩
theorem dToCall (vs : List Value) (cs : List Cel) (w : World) (h : AtL false w vs cs) (hs : HasL cs tyCall) : Calls Try.prog 7 #[.agg vs.toArray] w (RetL w cs) := by
 obtain ⟨c0, c1, c2, c3, c4, c5, c6, c7, c8, rfl, T0, T1, T2, T3, T4, T5, T6, T7, T8⟩ := hs.c9
 obtain ⟨v0, v1, v2, v3, v4, v5, v6, v7, v8, rfl, A0, A1, A2, A3, A4, A5, A6, A7, A8⟩ := h.c9
 obtain ⟨x0, rfl⟩ := T0.int
 obtain rfl := A0.int
 obtain ⟨x1, rfl⟩ := T1.int
 obtain rfl := A1.int
 obtain ⟨x2, rfl⟩ := T2.int
 obtain rfl := A2.int
 obtain ⟨x3, rfl⟩ := T3.int
 obtain rfl := A3.int
 obtain ⟨x4, rfl⟩ := T4.int
 obtain rfl := A4.int
 obtain ⟨x5, rfl⟩ := T5.int
 obtain rfl := A5.int
 obtain ⟨x6, rfl⟩ := T6.int
 obtain rfl := A6.int
 obtain ⟨x7, rfl⟩ := T7.int
 obtain rfl := A7.int
 have hA8' : Hid (At false w v8 c8) := A8
 obtain ⟨n8, cs8, rfl, -⟩ := T8.list
 have HT8 : Hid (Has (.l 3 1 n8 cs8) (.l 3 1 [.i])) := T8
 have HN1 : Hid (AtL false w [.int .i64 x1, .int .i64 x2, .int .i64 x3] [.i x1, .i x2, .i x3]) := AtL.cons (.i x1) (AtL.cons (.i x2) (AtL.cons (.i x3) (AtL.nil)))
 have HH1 : Hid (HasL [.i x1, .i x2, .i x3] tyOp) := ⟨rfl, fun j c t hc ht => by
   have hj : j < 3 := by have := (List.getElem?_eq_some_iff.1 hc).1; simpa using this
   rcases (show j = 0 ∨ j = 1 ∨ j = 2 by omega) with rfl | rfl | rfl <;> (simp [tyOp] at hc ht; subst hc ht)
   · exact .i x1
   · exact .i x2
   · exact .i x3⟩
 have HN7 : Hid (AtL false w [.int .i64 x7, v8] [.i x7, .l 3 1 n8 cs8]) := AtL.cons (.i x7) (AtL.cons (hA8'.out) (AtL.nil))
 have HH7 : Hid (HasL [.i x7, .l 3 1 n8 cs8] tyRes) := ⟨rfl, fun j c t hc ht => by
   have hj : j < 2 := by have := (List.getElem?_eq_some_iff.1 hc).1; simpa using this
   rcases (show j = 0 ∨ j = 1 by omega) with rfl | rfl <;> (simp [tyRes] at hc ht; subst hc ht)
   · exact .i x7
   · exact HT8.out⟩
 clear hs h T8 A8
 go_enter Try.func7, Try.ntmps7
 go_wp2_with fail
 have t0 := mk_new w #[.int .i64 x0, .int .i64 x1, .int .i64 x2, .int .i64 x3, .int .i64 x4, .int .i64 x5, .int .i64 x6, .int .i64 x7, v8] #[.int .i64 0, .int .i64 0, .int .i64 0, .int .i64 0, .int .i64 0, .int .i64 0, .int .i64 0, .int .i64 0, .slice none 0 0] #[.int .i64 x0, .int .i64 0, .int .i64 0, .int .i64 0, .int .i64 0, .int .i64 0, .int .i64 0, .int .i64 0, .slice none 0 0] 28 34
 have m1 := (t0.num (v := .int .i64 x0) (c := .i x0) (fun _ => .i x0 _ (fun _ h => h)))
 refine (dToOp [.int .i64 x1, .int .i64 x2, .int .i64 x3] [.i x1, .i x2, .i x3] _ (HN1.out.on m1.b (Nat.le_refl _)) HH1.out).mono ?_
 rintro e w1 ⟨hb, us, S1, rfl, ho⟩
 have hU := ho.at
 obtain ⟨u1, u2, u3, rfl, U1, U2, U3⟩ := hU.c3
 obtain rfl := U1.int
 obtain rfl := U2.int
 obtain rfl := U3.int
 have m1' := m1.call hb ho
 clear hU U1 U2 U3
 have t1 : Hid (Mk w w1 #[.int .i64 x0, .int .i64 x1, .int .i64 x2, .int .i64 x3, .int .i64 x4, .int .i64 x5, .int .i64 x6, .int .i64 x7, v8] #[.int .i64 0, .int .i64 0, .int .i64 0, .int .i64 0, .int .i64 0, .int .i64 0, .int .i64 0, .int .i64 0, .slice none 0 0] #[.int .i64 x0, .int .i64 0, .int .i64 0, .int .i64 0, .int .i64 0, .int .i64 0, .int .i64 0, .int .i64 0, .slice none 0 0] 28 34 _) := m1'
 have ax1_0 := t1.out.a.at 0 (.int .i64 x0) rfl
 have cx1_0 := t1.out.c.at 0 (.int .i64 x0) rfl
 have fx1_0 := t1.out.c.frozen 0
 have ax1_1 := t1.out.a.at 1 (.int .i64 x1) rfl
 have cx1_1 := t1.out.c.at 1 (.int .i64 0) rfl
 have fx1_1 := t1.out.c.frozen 1
 have ax1_2 := t1.out.a.at 2 (.int .i64 x2) rfl
 have cx1_2 := t1.out.c.at 2 (.int .i64 0) rfl
 have fx1_2 := t1.out.c.frozen 2
 have ax1_3 := t1.out.a.at 3 (.int .i64 x3) rfl
 have cx1_3 := t1.out.c.at 3 (.int .i64 0) rfl
 have fx1_3 := t1.out.c.frozen 3
 have ax1_4 := t1.out.a.at 4 (.int .i64 x4) rfl
 have cx1_4 := t1.out.c.at 4 (.int .i64 0) rfl
 have fx1_4 := t1.out.c.frozen 4
 have ax1_5 := t1.out.a.at 5 (.int .i64 x5) rfl
 have cx1_5 := t1.out.c.at 5 (.int .i64 0) rfl
 have fx1_5 := t1.out.c.frozen 5
 have ax1_6 := t1.out.a.at 6 (.int .i64 x6) rfl
 have cx1_6 := t1.out.c.at 6 (.int .i64 0) rfl
 have fx1_6 := t1.out.c.frozen 6
 have ax1_7 := t1.out.a.at 7 (.int .i64 x7) rfl
 have cx1_7 := t1.out.c.at 7 (.int .i64 0) rfl
 have fx1_7 := t1.out.c.frozen 7
 have ax1_8 := t1.out.a.at 8 (v8) rfl
 have cx1_8 := t1.out.c.at 8 (.slice none 0 0) rfl
 have fx1_8 := t1.out.c.frozen 8
 have zx1_0 := t1.out.z.at 0 (.int .i64 0) rfl
 have gx1_0 := t1.out.z.frozen 0
 have zx1_1 := t1.out.z.at 1 (.int .i64 0) rfl
 have gx1_1 := t1.out.z.frozen 1
 have zx1_2 := t1.out.z.at 2 (.int .i64 0) rfl
 have gx1_2 := t1.out.z.frozen 2
 have zx1_3 := t1.out.z.at 3 (.int .i64 0) rfl
 have gx1_3 := t1.out.z.frozen 3
 have zx1_4 := t1.out.z.at 4 (.int .i64 0) rfl
 have gx1_4 := t1.out.z.frozen 4
 have zx1_5 := t1.out.z.at 5 (.int .i64 0) rfl
 have gx1_5 := t1.out.z.frozen 5
 have zx1_6 := t1.out.z.at 6 (.int .i64 0) rfl
 have gx1_6 := t1.out.z.frozen 6
 have zx1_7 := t1.out.z.at 7 (.int .i64 0) rfl
 have gx1_7 := t1.out.z.frozen 7
 have zx1_8 := t1.out.z.at 8 (.slice none 0 0) rfl
 have gx1_8 := t1.out.z.frozen 8
 clear m1 m1' hb ho t0
 go_wp2_with fail
 have t1' := (((t1.out.store 1 (.int .i64 x1)).store 2 (.int .i64 x2)).store 3 (.int .i64 x3))
 have t1 : Hid (Mk w _ _ _ _ 28 34 _) := t1'
 clear t1'
 have m2 := ((((((t1.out.store 4 (.int .i64 x4)).store 5 (.int .i64 x5)).store 6 (.int .i64 x6)).num (v := .int .i64 x4) (c := .i x4) (fun _ => .i x4 _ (fun _ h => h))).num (v := .int .i64 x5) (c := .i x5) (fun _ => .i x5 _ (fun _ h => h))).num (v := .int .i64 x6) (c := .i x6) (fun _ => .i x6 _ (fun _ h => h)))
 refine (dToRes [.int .i64 x7, v8] [.i x7, .l 3 1 n8 cs8] _ (HN7.out.on m2.b (Nat.le_refl _)) HH7.out).mono ?_
 rintro e w2 ⟨hb, us, S7, rfl, ho⟩
 have hU := ho.at
 obtain ⟨u7, u8, rfl, U7, U8⟩ := hU.c2
 obtain rfl := U7.int
 obtain ⟨q8, d8, rfl⟩ := U8.slice
 have m2' := m2.call hb ho
 clear hU U7 U8
 have t2 : Hid (Mk w w2 #[.int .i64 x0, .int .i64 x1, .int .i64 x2, .int .i64 x3, .int .i64 x4, .int .i64 x5, .int .i64 x6, .int .i64 x7, v8] #[.int .i64 0, .int .i64 0, .int .i64 0, .int .i64 0, .int .i64 0, .int .i64 0, .int .i64 0, .int .i64 0, .slice none 0 0] #[.int .i64 x0, (.int .i64 x1), (.int .i64 x2), (.int .i64 x3), .int .i64 x4, .int .i64 x5, .int .i64 x6, .int .i64 0, .slice none 0 0] 28 34 _) := m2'
 have ax2_0 := t2.out.a.at 0 (.int .i64 x0) rfl
 have cx2_0 := t2.out.c.at 0 (.int .i64 x0) rfl
 have fx2_0 := t2.out.c.frozen 0
 have ax2_1 := t2.out.a.at 1 (.int .i64 x1) rfl
 have cx2_1 := t2.out.c.at 1 ((.int .i64 x1)) rfl
 have fx2_1 := t2.out.c.frozen 1
 have ax2_2 := t2.out.a.at 2 (.int .i64 x2) rfl
 have cx2_2 := t2.out.c.at 2 ((.int .i64 x2)) rfl
 have fx2_2 := t2.out.c.frozen 2
 have ax2_3 := t2.out.a.at 3 (.int .i64 x3) rfl
 have cx2_3 := t2.out.c.at 3 ((.int .i64 x3)) rfl
 have fx2_3 := t2.out.c.frozen 3
 have ax2_4 := t2.out.a.at 4 (.int .i64 x4) rfl
 have cx2_4 := t2.out.c.at 4 (.int .i64 x4) rfl
 have fx2_4 := t2.out.c.frozen 4
 have ax2_5 := t2.out.a.at 5 (.int .i64 x5) rfl
 have cx2_5 := t2.out.c.at 5 (.int .i64 x5) rfl
 have fx2_5 := t2.out.c.frozen 5
 have ax2_6 := t2.out.a.at 6 (.int .i64 x6) rfl
 have cx2_6 := t2.out.c.at 6 (.int .i64 x6) rfl
 have fx2_6 := t2.out.c.frozen 6
 have ax2_7 := t2.out.a.at 7 (.int .i64 x7) rfl
 have cx2_7 := t2.out.c.at 7 (.int .i64 0) rfl
 have fx2_7 := t2.out.c.frozen 7
 have ax2_8 := t2.out.a.at 8 (v8) rfl
 have cx2_8 := t2.out.c.at 8 (.slice none 0 0) rfl
 have fx2_8 := t2.out.c.frozen 8
 have zx2_0 := t2.out.z.at 0 (.int .i64 0) rfl
 have gx2_0 := t2.out.z.frozen 0
 have zx2_1 := t2.out.z.at 1 (.int .i64 0) rfl
 have gx2_1 := t2.out.z.frozen 1
 have zx2_2 := t2.out.z.at 2 (.int .i64 0) rfl
 have gx2_2 := t2.out.z.frozen 2
 have zx2_3 := t2.out.z.at 3 (.int .i64 0) rfl
 have gx2_3 := t2.out.z.frozen 3
 have zx2_4 := t2.out.z.at 4 (.int .i64 0) rfl
 have gx2_4 := t2.out.z.frozen 4
 have zx2_5 := t2.out.z.at 5 (.int .i64 0) rfl
 have gx2_5 := t2.out.z.frozen 5
 have zx2_6 := t2.out.z.at 6 (.int .i64 0) rfl
 have gx2_6 := t2.out.z.frozen 6
 have zx2_7 := t2.out.z.at 7 (.int .i64 0) rfl
 have gx2_7 := t2.out.z.frozen 7
 have zx2_8 := t2.out.z.at 8 (.slice none 0 0) rfl
 have gx2_8 := t2.out.z.frozen 8
 clear m2 m2' hb ho ax1_0 cx1_0 fx1_0 zx1_0 gx1_0 ax1_1 cx1_1 fx1_1 zx1_1 gx1_1 ax1_2 cx1_2 fx1_2 zx1_2 gx1_2 ax1_3 cx1_3 fx1_3 zx1_3 gx1_3 ax1_4 cx1_4 fx1_4 zx1_4 gx1_4 ax1_5 cx1_5 fx1_5 zx1_5 gx1_5 ax1_6 cx1_6 fx1_6 zx1_6 gx1_6 ax1_7 cx1_7 fx1_7 zx1_7 gx1_7 ax1_8 cx1_8 fx1_8 zx1_8 gx1_8
 go_wp2
 (try simp only [Exit.inBlock, Exit.then])
 refine bodyPost_ret (by simp [results, Try.results7, go_sem, zx2_0, zx2_1, zx2_2, zx2_3, zx2_4, zx2_5, zx2_6, zx2_7, zx2_8]; try rfl) rfl ?_
 have m := (((((((((((t2.out.store 7 ((.int .i64 x7))).store 8 ((.slice q8 n8 d8))).storeZ 0 (.int .i64 x0)).storeZ 1 ((.int .i64 x1))).storeZ 2 ((.int .i64 x2))).storeZ 3 ((.int .i64 x3))).storeZ 4 (.int .i64 x4)).storeZ 5 (.int .i64 x5)).storeZ 6 (.int .i64 x6)).storeZ 7 ((.int .i64 x7))).storeZ 8 ((.slice q8 n8 d8)))
 exact ⟨m.b, [.int .i64 x0, (.int .i64 x1), (.int .i64 x2), (.int .i64 x3), .int .i64 x4, .int .i64 x5, .int .i64 x6, (.int .i64 x7), (.slice q8 n8 d8)], _, rfl, m.all⟩
end
end Go.Proofs.Ytecheopkfhfgkaa
