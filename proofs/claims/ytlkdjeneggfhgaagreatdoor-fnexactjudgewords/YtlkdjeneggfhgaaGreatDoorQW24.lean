/- Texts joined: AfterOk, Jud, SpecRp. -/
import Derived.Test.YtlkdjeneggfhgaaGreatDoorQW23
import Derived.Test.YtlkdjeneggfhgaaGreatDoorQW18
import Derived.Test.YtlkdjeneggfhgaaGreatDoorQW17
import Derived.Test.YtlkdjeneggfhgaaGreatDoorQW20
import Derived.Test.YtlkdjeneggfhgaaGreatDoorQW01
import Derived.Deep.RegionHeld3
import Derived.Deep.Cut
set_option maxHeartbeats 16000000
set_option maxRecDepth 100000
namespace Go.Proofs.YtlkdjeneggfhgaaGreatDoor
theorem four_of {xs : List Int} (h : xs.length = 4) : ∃ y0 y1 y2 y3, xs = [y0, y1, y2, y3] := by
 match xs, h with
 | [y0, y1, y2, y3], _ => exact ⟨y0, y1, y2, y3, rfl⟩
def OkFour (y0 y1 y2 y3 : Int) : Prop :=
 (y0 = 0 ∨ (1 ≤ y0 ∧ y0 ≤ 6)) ∧ (y1 = 0 ∨ (1 ≤ y1 ∧ y1 ≤ 6)) ∧ (y2 = 0 ∨ (1 ≤ y2 ∧ y2 ≤ 6)) ∧ (y3 = 0 ∨ (1 ≤ y3 ∧ y3 ≤ 6))
 ∧ (y0 = 0 ∨ (y0 ≠ y1 ∧ y0 ≠ y2 ∧ y0 ≠ y3)) ∧ (y1 = 0 ∨ (y1 ≠ y2 ∧ y1 ≠ y3)) ∧ (y2 = 0 ∨ y2 ≠ y3)
theorem good_len {xs : List Int} {x : Int} (h : Good xs x) : (1 ≤ x ∧ x ≤ 6) ∧ (if xs.getD 0 0 = x then 1 else 0) + (if xs.getD 1 0 = x then 1 else 0) + (if xs.getD 2 0 = x then 1 else 0) + (if xs.getD 3 0 = x then 1 else 0) ≤ (1 : Int) := by
 have h2 := h.2
 rw [← posK_len]
 exact ⟨h.1, by omega⟩
theorem posK_ne {xs : List Int} {x : Int} (h : xs.getD 0 0 = x ∨ xs.getD 1 0 = x ∨ xs.getD 2 0 = x ∨ xs.getD 3 0 = x) : posK xs 4 x ≠ [] := by
 intro e
 have hl := posK_len xs x
 rw [e] at hl
 simp only [List.length_nil] at hl
 rcases h with h | h | h | h <;> simp only [h, if_true] at hl <;> (repeat' split at hl) <;> omega
theorem okFour_iff (y0 y1 y2 y3 st : Int) : OkRows [y0, y1, y2, y3] st ↔ ((0 ≤ st ∧ st ≤ 5) ∧ OkFour y0 y1 y2 y3) := by
 constructor
 · rintro ⟨_, h0, h1, h⟩
   refine ⟨⟨h0, h1⟩, ?_⟩
   have g : ∀ x, x ≠ 0 → (y0 = x ∨ y1 = x ∨ y2 = x ∨ y3 = x) → (1 ≤ x ∧ x ≤ 6) ∧ (if y0 = x then 1 else 0) + (if y1 = x then 1 else 0) + (if y2 = x then 1 else 0) + (if y3 = x then 1 else 0) ≤ (1 : Int) := fun x hx hh => good_len (h x hx (posK_ne (by simpa using hh)))
   have g0 := g y0
   have g1 := g y1
   have g2 := g y2
   have g3 := g y3
   unfold OkFour
   clear g h
   simp only [true_or, or_true, if_true, forall_const] at g0 g1 g2 g3
   refine ⟨?_, ?_, ?_, ?_, ?_, ?_, ?_⟩
   · rcases Decidable.em (y0 = 0) with e | e
     · exact .inl e
     · exact .inr (g0 e).1
   · rcases Decidable.em (y1 = 0) with e | e
     · exact .inl e
     · exact .inr (g1 e).1
   · rcases Decidable.em (y2 = 0) with e | e
     · exact .inl e
     · exact .inr (g2 e).1
   · rcases Decidable.em (y3 = 0) with e | e
     · exact .inl e
     · exact .inr (g3 e).1
   · rcases Decidable.em (y0 = 0) with e | e
     · exact .inl e
     · have q := (g0 e).2
       refine .inr ⟨?_, ?_, ?_⟩ <;> (intro e2; simp only [← e2, if_true] at q; (repeat' split at q) <;> omega)
   · rcases Decidable.em (y1 = 0) with e | e
     · exact .inl e
     · have q := (g1 e).2
       refine .inr ⟨?_, ?_⟩ <;> (intro e2; simp only [← e2, if_true] at q; (repeat' split at q) <;> omega)
   · rcases Decidable.em (y2 = 0) with e | e
     · exact .inl e
     · have q := (g2 e).2
       refine .inr ?_
       intro e2; simp only [← e2, if_true] at q; (repeat' split at q) <;> omega
 · rintro ⟨⟨h0, h1⟩, h⟩
   refine ⟨rfl, h0, h1, fun x hx hp => ?_⟩
   unfold OkFour at h
   have hmem : y0 = x ∨ y1 = x ∨ y2 = x ∨ y3 = x := by
     rcases Decidable.em (y0 = x ∨ y1 = x ∨ y2 = x ∨ y3 = x) with e | e
     · exact e
     · exfalso
       apply hp
       rw [posK_four]
       simp only [not_or] at e
       simp [e]
   refine ⟨by omega, ?_⟩
   have hl := posK_len [y0, y1, y2, y3] x
   simp only [List.getD_cons_zero, List.getD_cons_succ] at hl
   have : ((posK [y0, y1, y2, y3] 4 x).length : Int) ≤ 1 := by
     rw [hl]
     (repeat' split) <;> omega
   omega
theorem keyN_lt {y0 y1 y2 y3 v : Int} (h : keyN [y0, y1, y2, y3] v < 0) : y0 ≠ v ∧ y1 ≠ v ∧ y2 ≠ v ∧ y3 ≠ v := by
 unfold keyN at h
 simp only [List.getD_cons_zero, List.getD_cons_succ] at h
 (repeat' split at h) <;> first | omega | (refine ⟨?_, ?_, ?_, ?_⟩ <;> assumption)
theorem keyN_eq {y0 y1 y2 y3 v k : Int} (h : keyN [y0, y1, y2, y3] v = k) (hk : 0 ≤ k) : (k = 0 ∧ y0 = v) ∨ (k = 1 ∧ y1 = v) ∨ (k = 2 ∧ y2 = v) ∨ (k = 3 ∧ y3 = v) := by
 unfold keyN at h
 simp only [List.getD_cons_zero, List.getD_cons_succ] at h
 (repeat' split at h) <;> omega
theorem after_ok {xs : List Int} {st kind k v : Int} {ys zs : List Int} {st' : Int} (hA : AllowM xs st kind k v 0 ys) (h : AfterM xs st kind k v 0 ys zs st') : OkRows zs st' := by
 rcases h with ⟨_, _, h⟩ | ⟨h, _⟩
 case inr => exact absurd ⟨hA, rfl⟩ h
 obtain ⟨hok, hop, hA⟩ := hA
 rcases hA with ⟨h0, _⟩ | ⟨_, hD, _⟩
 · exact absurd rfl h0
 obtain ⟨y0, y1, y2, y3, rfl⟩ := four_of hok.1
 have hf := (okFour_iff y0 y1 y2 y3 st).1 hok
 obtain ⟨hk, hkey, hval⟩ := hop
 unfold KeyGood at hkey
 unfold ValGood at hval
 unfold DoneM atK at hD
 rcases h with ⟨hkd, rfl, rfl⟩ | ⟨hkd, rfl, rfl⟩ | ⟨hkd, rfl, rfl⟩ | ⟨hkd, rfl, rfl⟩
 · have hk4 : 0 ≤ k ∧ k ≤ 3 := by omega
   have hv : 1 ≤ v ∧ v ≤ 6 := by omega
   have hcase : (keyN [y0, y1, y2, y3] v < 0) ∨ keyN [y0, y1, y2, y3] v = k := by omega
   have hne : (k = 0 ∨ y0 ≠ v) ∧ (k = 1 ∨ y1 ≠ v) ∧ (k = 2 ∨ y2 ≠ v) ∧ (k = 3 ∨ y3 ≠ v) := by
     rcases hcase with h1 | h1
     · have := keyN_lt h1; omega
     · have e := keyN_eq h1 hk4.1
       obtain ⟨_, hf2⟩ := hf
       unfold OkFour at hf2
       omega
   clear hD hcase hkey hval hk hkd hok
   obtain ⟨hst, hf⟩ := hf
   unfold OkFour at hf
   rcases (show k = 0 ∨ k = 1 ∨ k = 2 ∨ k = 3 by omega) with rfl | rfl | rfl | rfl
   · show OkRows [v, y1, y2, y3] _
     rw [okFour_iff]
     refine ⟨hst, ?_⟩
     have n : y1 ≠ v ∧ y2 ≠ v ∧ y3 ≠ v := by omega
     clear hne
     unfold OkFour
     refine ⟨?_, ?_, ?_, ?_, ?_, ?_, ?_⟩ <;> omega
   · show OkRows [y0, v, y2, y3] _
     rw [okFour_iff]
     refine ⟨hst, ?_⟩
     have n : y0 ≠ v ∧ y2 ≠ v ∧ y3 ≠ v := by omega
     clear hne
     unfold OkFour
     refine ⟨?_, ?_, ?_, ?_, ?_, ?_, ?_⟩ <;> omega
   · show OkRows [y0, y1, v, y3] _
     rw [okFour_iff]
     refine ⟨hst, ?_⟩
     have n : y0 ≠ v ∧ y1 ≠ v ∧ y3 ≠ v := by omega
     clear hne
     unfold OkFour
     refine ⟨?_, ?_, ?_, ?_, ?_, ?_, ?_⟩ <;> omega
   · show OkRows [y0, y1, y2, v] _
     rw [okFour_iff]
     refine ⟨hst, ?_⟩
     have n : y0 ≠ v ∧ y1 ≠ v ∧ y2 ≠ v := by omega
     clear hne
     unfold OkFour
     refine ⟨?_, ?_, ?_, ?_, ?_, ?_, ?_⟩ <;> omega
 · have hk4 : 0 ≤ k ∧ k ≤ 3 := by omega
   clear hD hkey hval hk hkd hok
   obtain ⟨hst, hf⟩ := hf
   unfold OkFour at hf
   rcases (show k = 0 ∨ k = 1 ∨ k = 2 ∨ k = 3 by omega) with rfl | rfl | rfl | rfl
   · show OkRows [0, y1, y2, y3] _
     rw [okFour_iff]
     refine ⟨hst, ?_⟩
     unfold OkFour
     refine ⟨?_, ?_, ?_, ?_, ?_, ?_, ?_⟩ <;> omega
   · show OkRows [y0, 0, y2, y3] _
     rw [okFour_iff]
     refine ⟨hst, ?_⟩
     unfold OkFour
     refine ⟨?_, ?_, ?_, ?_, ?_, ?_, ?_⟩ <;> omega
   · show OkRows [y0, y1, 0, y3] _
     rw [okFour_iff]
     refine ⟨hst, ?_⟩
     unfold OkFour
     refine ⟨?_, ?_, ?_, ?_, ?_, ?_, ?_⟩ <;> omega
   · show OkRows [y0, y1, y2, 0] _
     rw [okFour_iff]
     refine ⟨hst, ?_⟩
     unfold OkFour
     refine ⟨?_, ?_, ?_, ?_, ?_, ?_, ?_⟩ <;> omega
 · rw [okFour_iff]
   refine ⟨?_, hf.2⟩
   omega
 · exact hok
section
open Go.ChangeShapes Go.WideShapes Go.ChangeAt Go.RowKit Go.Joins
def resD (r : List Cel) : List Int := nums (listC (nthC r 8))
def rsD (cs : List Cel) : Nat → List Int := fun i => resD (row (listC (nthC cs 4)) 9 i)
def CasR (w : World) (a : Option Addr) (n : Nat) (f : Nat → CaD) (rs : Nat → List Int) : Prop :=
 n = 0 ∨ ∃ b o, a = some ⟨b, o, none⟩ ∧ ∀ i, i < n → ∃ ra rn rc, CaC w b (o + i * 9) (f i) (.slice ra rn rc) ∧ IntAt w ra rn (rs i)
theorem CasR.below {w w' : World} {a : Option Addr} {n : Nat} {f : Nat → CaD} {rs : Nat → List Int} (h : CasR w a n f rs) {B : Nat} (hb : Below B w w') (hB : w.heap.size ≤ B) : CasR w' a n f rs := by
 obtain h2 | ⟨b, o, h3, h4⟩ := h
 · exact .inl h2
 · refine .inr ⟨b, o, h3, fun i hi => ?_⟩
   obtain ⟨ra, rn, rc, h5, h6⟩ := h4 i hi
   exact ⟨ra, rn, rc, h5.below hb hB, h6.below hb hB⟩
theorem at_call_r {w : World} {b p : Nat} {us : List Value} {r : List Cel} (h : AtL true w us r) (hs : HasL r tyCall) (hc : ∀ i, i < 9 → w.cell? ⟨b, p + i, none⟩ = us[i]?) : ∃ ra rn rc, CaC w b p (caD r) (.slice ra rn rc) ∧ IntAt w ra rn (resD r) := by
 obtain ⟨x0, x1, x2, x3, x4, x5, x6, x7, x8, rfl, T0, T1, T2, T3, T4, T5, T6, T7, T8⟩ := hs.c9
 obtain ⟨v0, v1, v2, v3, v4, v5, v6, v7, v8, rfl, A0, A1, A2, A3, A4, A5, A6, A7, A8⟩ := h.c9
 obtain ⟨y0, rfl⟩ := T0.int
 obtain ⟨y1, rfl⟩ := T1.int
 obtain ⟨y2, rfl⟩ := T2.int
 obtain ⟨y3, rfl⟩ := T3.int
 obtain ⟨y4, rfl⟩ := T4.int
 obtain ⟨y5, rfl⟩ := T5.int
 obtain ⟨y6, rfl⟩ := T6.int
 obtain ⟨y7, rfl⟩ := T7.int
 obtain ⟨n8, l8, rfl, _⟩ := T8.list
 obtain rfl := A0.int
 obtain rfl := A1.int
 obtain rfl := A2.int
 obtain rfl := A3.int
 obtain rfl := A4.int
 obtain rfl := A5.int
 obtain rfl := A6.int
 obtain rfl := A7.int
 obtain ⟨a8, c8, rfl⟩ := A8.slice
 exact ⟨a8, n8, c8, ⟨hc 0 (by omega), hc 1 (by omega), hc 2 (by omega), hc 3 (by omega), hc 4 (by omega), hc 5 (by omega), hc 6 (by omega), hc 7 (by omega), hc 8 (by omega)⟩, (at_kAt A8 T8 i1).ints⟩
theorem at_machine_r {w : World} {us : List Value} {cs : List Cel} (h : AtL true w us cs) (hs : HasL cs tyMachine) (hb : bigL cs ≤ 1048576) :
   ∃ wa wc da dc ta tc ca cc oa oc ha hc, .agg us.toArray = MaV wa wc da dc ta tc ca cc oa oc ha hc (maD cs) ∧ MaAt w wa da ta ca oa ha (maD cs) ∧ CapAt w da (maD cs).nd (maD cs).ds ∧ (maD cs).nh ≤ hc ∧ CasR w ca (maD cs).nc (maD cs).f (rsD cs) := by
 obtain ⟨wa, wc, da, dc, ta, tc, ca, cc, oa, oc, ha, hc, e, hM, hC, hh⟩ := at_machine h hs hb
 refine ⟨wa, wc, da, dc, ta, tc, ca, cc, oa, oc, ha, hc, e, hM, hC, hh, ?_⟩
 clear hM hC hh
 obtain ⟨x0, x1, x2, x3, x4, x5, x6, x7, rfl, T0, T1, T2, T3, T4, T5, T6, T7⟩ := hs.c8
 obtain ⟨v0, v1, v2, v3, v4, v5, v6, v7, rfl, A0, A1, A2, A3, A4, A5, A6, A7⟩ := h.c8
 obtain ⟨n4, l4, rfl, e4⟩ := T4.list
 have hv : v4 = .slice ca n4 cc := by
   have := congrArg (fun v => match v with | Value.agg a => a.getD 4 undef | _ => undef) e
   exact this
 subst hv
 show n4 = 0 ∨ ∃ b o, ca = some ⟨b, o, none⟩ ∧ ∀ i, i < n4 → ∃ ra rn rc, CaC w b (o + i * 9) (caD (row l4 9 i)) (.slice ra rn rc) ∧ IntAt w ra rn (resD (row l4 9 i))
 rcases at_rows A4 with h0 | ⟨b, o, rfl, hr⟩
 · exact .inl h0
 · refine .inr ⟨b, o, rfl, fun i hi => ?_⟩
   obtain ⟨us, hu, hc⟩ := hr i hi
   exact at_call_r hu (T4.rowL hi) hc
def calN (M : MaD) (i : Nat) : Nat := (M.os.getD i 0).toNat
def AlwJ (M : MaD) (rs : Nat → List Int) (i : Nat) (xs : List Int) (st : Int) : Prop := AllowM xs st (M.f (calN M i)).kd (M.f (calN M i)).k (M.f (calN M i)).v (M.f (calN M i)).cd (rs (calN M i))
def ReplM (M : MaD) (rs : Nat → List Int) : Nat → List Int → Int → Prop
 | 0, xs, st => xs = M.hs ∧ st = M.st
 | i + 1, xs, st => ∃ xs0 st0, ReplM M rs i xs0 st0 ∧ AfterM xs0 st0 (M.f (calN M i)).kd (M.f (calN M i)).k (M.f (calN M i)).v (M.f (calN M i)).cd (rs (calN M i)) xs st
theorem ReplM.one {M : MaD} {rs : Nat → List Int} : ∀ {i : Nat} {xs ys : List Int} {s t : Int}, ReplM M rs i xs s → ReplM M rs i ys t → xs = ys ∧ s = t
 | 0, _, _, _, _, h, g => ⟨h.1.trans g.1.symm, h.2.trans g.2.symm⟩
 | i + 1, _, _, _, _, h, g => by
   obtain ⟨x0, s0, h0, h1⟩ := h
   obtain ⟨y0, t0, g0, g1⟩ := g
   obtain ⟨rfl, rfl⟩ := ReplM.one h0 g0
   exact h1.one g1
def SoM (M : MaD) (rs : Nat → List Int) (n : Nat) : Prop := ∀ i, i < n → ∀ xs st, ReplM M rs i xs st → AlwJ M rs i xs st
theorem SoM.succ {M : MaD} {rs : Nat → List Int} {n : Nat} {xs : List Int} {st : Int} (h : ReplM M rs n xs st) : SoM M rs (n + 1) ↔ SoM M rs n ∧ AlwJ M rs n xs st := by
 constructor
 · intro g
   exact ⟨fun i hi => g i (by omega), g n (by omega) _ _ h⟩
 · rintro ⟨g1, g2⟩ i hi ys t hy
   by_cases hn : i < n
   · exact g1 i hn ys t hy
   · obtain rfl : i = n := by omega
     obtain ⟨rfl, rfl⟩ := hy.one h
     exact g2
theorem after_rows {xs : List Int} {st kind k v code : Int} {ys zs : List Int} {st' : Int} (ho : OkRows xs st) (h : AfterM xs st kind k v code ys zs st') : OkRows zs st' := by
 by_cases hA : AllowM xs st kind k v code ys ∧ code = 0
 · obtain ⟨hA, rfl⟩ := hA
   exact after_ok hA h
 · rcases h with ⟨h1, h2, _⟩ | ⟨_, rfl, rfl⟩
   · exact absurd ⟨h1, h2⟩ hA
   · exact ho
theorem ReplM.ok {M : MaD} {rs : Nat → List Int} (ho : OkRows M.hs M.st) : ∀ {i : Nat} {xs : List Int} {st : Int}, ReplM M rs i xs st → OkRows xs st
 | 0, _, _, h => by obtain ⟨rfl, rfl⟩ := h; exact ho
 | i + 1, _, _, h => by
   obtain ⟨x0, s0, h0, h1⟩ := h
   exact after_rows (ReplM.ok ho h0) h1
def JSo (M : MaD) (rs : Nat → List Int) : Prop := MachGood M ∧ SoM M rs M.no
end
section
open Go.ChangeShapes Go.WideShapes Go.ChangeAt Go.RowKit
def ReplSays (M : MaD) (rs : Nat → List Int) (base : Nat) (e : Ending) (w' : World) : Prop :=
 (MachGood M ∧ ∃ g c zs st' ok, e = .returned (.tuple #[.agg #[.slice (some ⟨g, 0, none⟩) 4 c, .int .i64 st'], .bool ok]) ∧ ReplM M rs M.no zs st' ∧ (ok = true ↔ SoM M rs M.no) ∧ w'.ownsRow base 3 1 (.slice (some ⟨g, 0, none⟩) 4 c) 4 (zs.map I))
 ∨ (¬ MachGood M ∧ e = .returned (.tuple #[.agg #[.slice none 0 0, .int .i64 0], .bool false]))
structure RpSt (w : World) (sz rb : Nat) (mv : Array Value) (M : MaD) (rs : Nat → List Int) (k : Nat) (B : Bool) (wr : World) (g c : Nat) (zs : List Int) (st' : Int) : Prop where
 m : Box wr sz mv 44
 out : Box wr (sz + 1) #[.slice none 0 0, .int .i64 0] 34
 r : Box wr rb #[.slice (some ⟨g, 0, none⟩) 4 c, .int .i64 st'] 34
 own : wr.ownsRow (sz + 2) 3 1 (.slice (some ⟨g, 0, none⟩) 4 c) 4 (zs.map I)
 far : g ≠ rb
 rep : ReplM M rs k zs st'
 so : B = true ↔ SoM M rs k
 blw : Below sz w wr
 lt : sz + 1 < rb
theorem owns_four {w : World} {base : Nat} {e : TypeId} {a : Option Addr} {c : Nat} {xs : List Value} (h : w.ownsRow base e 1 (.slice a 4 c) 4 xs) : ∃ g, a = some ⟨g, 0, none⟩ := by
 rcases owns_forms h with ⟨_, h0⟩ | ⟨g, cap, e⟩
 · cases h0
 · cases e; exact ⟨g, rfl⟩
theorem two_of {w : World} {b : Nat} {x0 x1 : Value} {T : TypeId} (h : Box w b #[x0, x1] T) : w.cell? ⟨b, 0, none⟩ = some x0 ∧ w.cell? ⟨b, 1, none⟩ = some x1 ∧ w.frozen? ⟨b, 0, none⟩ = false ∧ w.frozen? ⟨b, 1, none⟩ = false := ⟨h.cell 0, h.cell 1, h.frozen 0, h.frozen 1⟩
theorem intAt_own {w : World} {base g c : Nat} {xs : List Int} {e : TypeId} (h : w.ownsRow base e 1 (.slice (some ⟨g, 0, none⟩) 4 c) 4 (xs.map I)) : IntAt w (some ⟨g, 0, none⟩) 4 xs := by
 obtain ⟨a, c', e1, h1⟩ := own_at h (by omega)
 cases e1
 exact h1
theorem ok_len {M : MaD} (h : MachGood M) : M.hs.length = 4 := h.first.1
theorem specReplay_any (wa : Option Addr) (wc : Nat) (da : Option Addr) (dc : Nat) (ta : Option Addr) (tc : Nat) (ca : Option Addr) (cc : Nat) (oa : Option Addr) (oc : Nat) (ha : Option Addr) (hc : Nat) (M : MaD) (rs : Nat → List Int) (w : World) (h : MaAt w wa da ta ca oa ha M) (hr : CasR w ca M.nc M.f rs) :
   Calls Tryz.prog 9 #[MaV wa wc da dc ta tc ca cc oa oc ha hc M] w fun e w' => ReplSays M rs w.heap.size e w' ∧ Below w.heap.size w w' := by
 have HM : Hid (MaAt w wa da ta ca oa ha M) := h
 have HCR : Hid (CasR w ca M.nc M.f rs) := hr
 obtain ⟨MX, hMX⟩ : ∃ MX, M = MX := ⟨_, rfl⟩
 have HMX : Hid (M = MX) := hMX
 have HSAY : Hid (∀ e w', ReplSays MX rs w.heap.size e w' → ReplSays M rs w.heap.size e w') := fun e w' h => by rw [HMX.out]; exact h
 obtain ⟨MO, hMO⟩ : ∃ MO : Prop, MachGood M = MO := ⟨_, rfl⟩
 have HMO : Hid (MachGood M = MO) := hMO
 have HORD : Hid (MO → ∀ i, i < M.no → OrdAt M.f M.nc M.os i) := fun h => by rw [← hMO] at h; exact h.calls.ord
 have HLEN : Hid (MO → M.hs.length = 4) := fun h => by rw [← hMO] at h; exact ok_len h
 have HR0 : Hid (ReplM MX rs 0 M.hs M.st) := by rw [← hMX]; exact ⟨rfl, rfl⟩
 have HF : Hid (MX.f = M.f ∧ MX.os = M.os ∧ MX.no = M.no) := by rw [← hMX]; exact ⟨rfl, rfl, rfl⟩
 have HXO : Hid (MachGood MX = MO) := by rw [← hMX]; exact hMO
 have H1 : Hid (IntAt w oa M.no M.os) := h.ord
 have H2 : Hid (IntAt w ha M.nh M.hs) := h.held
 have hno := h.ord.2.1
 have hnc := h.calls.1
 have hl1 := h.held.1
 obtain ⟨SAY, hSAY⟩ : ∃ SAY, ReplSays M rs w.heap.size = SAY := ⟨_, rfl⟩
 have HS2 : Hid (∀ e w', ReplSays MX rs w.heap.size e w' → SAY e w') := fun e w' h => by rw [← hSAY, HMX.out]; exact h
 show Calls Tryz.prog 9 #[MaV wa wc da dc ta tc ca cc oa oc ha hc M] w fun e w' => ReplSays M rs w.heap.size e w' ∧ Below w.heap.size w w'
 rw [hSAY]
 clear hSAY HSAY hMX hMO h hr
 clear HMX
 obtain ⟨nw, ws, nd, ds, nt, ts, tm, nc, f, no, os, nh, hs, st⟩ := M
 dsimp only at HCR HORD HLEN HR0 HF H1 H2 hno hnc hl1
 show Calls Tryz.prog 9 #[.agg #[.slice wa nw wc, .slice da nd dc, .slice ta nt tc, .int .i64 tm, .slice ca nc cc, .slice oa no oc, .slice ha nh hc, .int .i64 st]] w fun e w' => SAY e w' ∧ Below w.heap.size w w'
 obtain ⟨sz, hsz⟩ : ∃ sz, w.heap.size = sz := ⟨_, rfl⟩
 obtain ⟨W, hW⟩ : ∃ W, (w.alloc (.cells #[.slice wa nw wc, .slice da nd dc, .slice ta nt tc, .int .i64 tm, .slice ca nc cc, .slice oa no oc, .slice ha nh hc, .int .i64 st] 44)).alloc (.cells #[.slice none 0 0, .int .i64 0] 34) = W := ⟨_, rfl⟩
 have hb0 : Below sz w W := by rw [← hW, ← hsz]; exact ((Below.refl _ w).alloc (Nat.le_refl _) _).alloc (by simp) _
 have BM : Hid (Box W sz #[.slice wa nw wc, .slice da nd dc, .slice ta nt tc, .int .i64 tm, .slice ca nc cc, .slice oa no oc, .slice ha nh hc, .int .i64 st] 44) := by rw [← hW, ← hsz]; exact (box_of w _ _).alloc _
 have BO : Hid (Box W (sz + 1) #[.slice none 0 0, .int .i64 0] 34) := by rw [← hW, ← hsz]; have := box_of (w.alloc (.cells #[.slice wa nw wc, .slice da nd dc, .slice ta nt tc, .int .i64 tm, .slice ca nc cc, .slice oa no oc, .slice ha nh hc, .int .i64 st] 44)) #[.slice none 0 0, .int .i64 0] 34; rwa [World.size_alloc] at this
 have HB0 : Hid (Below sz w W) := hb0
 have HW : Hid ((w.alloc (.cells #[.slice wa nw wc, .slice da nd dc, .slice ta nt tc, .int .i64 tm, .slice ca nc cc, .slice oa no oc, .slice ha nh hc, .int .i64 st] 44)).alloc (.cells #[.slice none 0 0, .int .i64 0] 34) = W) := hW
 have HSZ : Hid (w.heap.size = sz) := hsz
 have HLE : Hid (w.heap.size ≤ sz) := by show _ ≤ _; omega
 rw [hsz] at HS2
 rw [show (fun e w' => SAY e w' ∧ Below w.heap.size w w') = (fun e w' => SAY e w' ∧ Below sz w w') by rw [hsz]]
 clear hb0 hW hsz
 go_enter Tryz.func9, Tryz.ntmps9
 go_wp2_with fail
 rw [HW.out]
 (try rw [HSZ.out])
 refine (specMachineOk_any wa wc da dc ta tc ca cc oa oc ha hc ⟨nw, ws, nd, ds, nt, ts, tm, nc, f, no, os, nh, hs, st⟩ W (HM.out.below HB0.out HLE.out)).mono ?_
 rintro e w1 ⟨r, ⟨rfl, hr⟩, hb1⟩
 have HR : Hid (r = true ↔ MO) := by show _ ↔ _; rw [← HMO.out]; exact hr
 have BM1 : Hid (Box w1 sz #[.slice wa nw wc, .slice da nd dc, .slice ta nt tc, .int .i64 tm, .slice ca nc cc, .slice oa no oc, .slice ha nh hc, .int .i64 st] 44) := BM.out.below hb1 BM.out.lt
 have BO1 : Hid (Box w1 (sz + 1) #[.slice none 0 0, .int .i64 0] 34) := BO.out.below hb1 BO.out.lt
 have HB1 : Hid (Below sz w w1) := HB0.out.trans (hb1.mono (by have := BM.out.lt; omega))
 obtain ⟨z0, z1, z2, z3, z4, z5, z6, z7⟩ := eight_of BM1.out
 clear hr hb1
 rcases r with _ | _
 · have HNO : Hid (¬ MO) := fun h => by have := HR.out.2 h; cases this
   obtain ⟨c0, c1, g0, g1⟩ := two_of BO1.out
   obtain ⟨d0, d1, _, _⟩ := two_of ((BO1.out.put 0 (.slice none 0 0)).put 1 (.int .i64 0))
   have LO : sz + 1 < w1.heap.size := BO1.out.lt
   go_wp2
   (try simp only [Exit.inBlock, Exit.then])
   refine bodyPost_ret (by simp [results, Tryz.results9, go_sem, d0, d1]; try rfl) rfl ?_
   exact ⟨HS2.out _ _ (.inr ⟨by rw [HXO.out]; exact HNO.out, rfl⟩), (HB1.out.setCell (by simp) _).setCell (by simp) _⟩
 have HOK : Hid MO := HR.out.1 (by first | rfl | trivial)
 have hn4 : nh = 4 := by have := HLEN.out HOK.out; omega
 subst hn4
 rcases H2.out.2.2 with h0 | ⟨p, o, rfl, _⟩
 · cases h0
 go_wp2_with fail
 refine (l3Copy_any p o 4 hc st hs _ (H2.out.below HB1.out HLE.out)).mono ?_
 rintro e w2 ⟨a', c', rfl, hown, hb2⟩
 obtain ⟨g, rfl⟩ := owns_four hown
 obtain ⟨rb, hrb⟩ : ∃ rb, w2.heap.size = rb := ⟨_, rfl⟩
 obtain ⟨W3, hW3⟩ : ∃ W3, w2.alloc (.cells #[.slice (some ⟨g, 0, none⟩) 4 c', .int .i64 st] 34) = W3 := ⟨_, rfl⟩
 have hg := own_base hown
 have hb3 : Below w2.heap.size w2 W3 := by rw [← hW3]; exact (Below.refl _ _).alloc (Nat.le_refl _) _
 have L1 := BO1.out.lt
 have hss := hb2.size
 have ST0 : Hid (RpSt w sz rb #[.slice wa nw wc, .slice da nd dc, .slice ta nt tc, .int .i64 tm, .slice ca nc cc, .slice oa no oc, .slice (some ⟨p, o, none⟩) 4 hc, .int .i64 st] MX rs 0 true W3 g c' hs st) := by
   have hbb : Below w1.heap.size w1 W3 := hb2.trans (hb3.mono hss)
   refine ⟨BM1.out.below hbb BM1.out.lt, BO1.out.below hbb L1, by rw [← hW3, ← hrb]; exact box_of w2 _ _, own_weaken (owns_below hown hb3 (Nat.le_refl _)) (by omega), by omega, HR0.out, by simp [SoM], HB1.out.trans (hbb.mono (by omega)), by omega⟩
 have HW3 : Hid (w2.alloc (.cells #[.slice (some ⟨g, 0, none⟩) 4 c', .int .i64 st] 34) = W3) := hW3
 have HRB : Hid (w2.heap.size = rb) := hrb
 clear hown hb2 hrb hW3 hg hb3 L1 hss z0 z1 z2 z3 z4 z5 z6 z7
 go_upto_region 6 with (fail)
 rw [HW3.out]
 (try rw [HRB.out])
 clear HW3 HRB
 go_loopw [5, 6] (fun q i wr => ∃ k B g c zs st', k ≤ no ∧ q = .bool B ∧ i = .int .i64 ((k : Nat) : Int) ∧ RpSt w sz rb #[.slice wa nw wc, .slice da nd dc, .slice ta nt tc, .int .i64 tm, .slice ca nc cc, .slice oa no oc, .slice (some ⟨p, o, none⟩) 4 hc, .int .i64 st] MX rs k B wr g c zs st') (fun _ i _ => no - (intOf i).toNat)
 case atStart => exact ⟨0, true, g, c', hs, st, Nat.zero_le _, rfl, rfl, ST0.out⟩
 case round =>
   clear ST0
   obtain ⟨k, B, g, c, zs, st', hk, rfl, rfl, hST⟩ := hrel
   have ST : Hid (RpSt w sz rb #[.slice wa nw wc, .slice da nd dc, .slice ta nt tc, .int .i64 tm, .slice ca nc cc, .slice oa no oc, .slice (some ⟨p, o, none⟩) 4 hc, .int .i64 st] MX rs k B wr g c zs st') := hST
   have LT := hST.lt
   have LR : rb < wr.heap.size := hST.r.lt
   have LM : sz < wr.heap.size := hST.m.lt
   obtain ⟨z0, z1, z2, z3, z4, z5, z6, z7⟩ := eight_of hST.m
   obtain ⟨r0, r1, f0, f1⟩ := two_of hST.r
   obtain ⟨c0, c1, g0, g1⟩ := two_of hST.out
   clear hST
   by_cases hlt : k < no
   case neg =>
     obtain rfl : no = k := by omega
     obtain ⟨d0, d1, _, _⟩ := two_of ((ST.out.out.put 0 (.slice (some ⟨g, 0, none⟩) 4 c)).put 1 (.int .i64 st'))
     have LO : sz + 1 < wr.heap.size := by omega
     go_wp2
     (try simp only [Exit.inBlock, Exit.then])
     refine bodyPost_ret (by simp [results, Tryz.results9, go_sem, d0, d1]; try rfl) rfl ?_
     have hgo := own_base ST.out.own
     have hne : (Value.slice (some ⟨g, 0, none⟩) 4 c).ownBlock ≠ some (sz + 1) := fun h => by have h2 : g = sz + 1 := Option.some.inj h; omega
     refine ⟨HS2.out _ _ (.inl ⟨by rw [HXO.out]; exact HOK.out, g, c, zs, st', B, rfl, ?_, ?_, ?_⟩), (ST.out.blw.setCell (by simp) _).setCell (by simp) _⟩
     · rw [HF.out.2.2]; exact ST.out.rep
     · rw [HF.out.2.2]; exact ST.out.so
     · exact own_weaken (own_setCell_far (own_setCell_far ST.out.own hne _) hne _) (by omega)
   have hk0 : (0 : Int) ≤ (k : Int) := by omega
   have hk1 : (k : Int) < (no : Int) := by omega
   have hO := HORD.out HOK.out k hlt
   have hin := inB_val hO.1
   rcases (H1.out.below ST.out.blw HLE.out).2.2 with h0 | ⟨p2, o2, rfl, q2⟩
   · omega
   have eo := q2 k hlt
   have HCN : Hid (calN MX k = (os.getD k 0).toNat) := by show (MX.os.getD k 0).toNat = _; rw [HF.out.2.1]
   obtain ⟨n, hn⟩ : ∃ n, os.getD k 0 = n := ⟨_, rfl⟩
   rw [hn] at hin eo HCN
   have hn0 : 0 ≤ n := by omega
   have hn1 : n < (nc : Int) := by omega
   rcases HCR.out.below ST.out.blw HLE.out with h0 | ⟨p1, o1, rfl, g2⟩
   · omega
   obtain ⟨ra, rn, rc, ⟨e0, e1, e2, e3, e4, e5, e6, e7, e8⟩, hres⟩ := g2 n.toNat (by omega)
   obtain ⟨L, hL⟩ : ∃ L, rs n.toNat = L := ⟨_, rfl⟩
   obtain ⟨C, hC⟩ : ∃ C, f n.toNat = C := ⟨_, rfl⟩
   have HCC : Hid (MX.f (calN MX k) = C ∧ rs (calN MX k) = L) := by rw [HCN.out, HF.out.1]; exact ⟨hC, hL⟩
   rw [hL] at hres
   rw [hC] at e0 e1 e2 e3 e4 e5 e6 e7
   obtain ⟨x0, x1, x2, x3, x4, x5, x6, x7⟩ := C
   dsimp only at e0 e1 e2 e3 e4 e5 e6 e7
   have HRES : Hid (IntAt wr ra rn L) := hres
   have HAW : Hid (AlwJ MX rs k zs st' ↔ AllowM zs st' x1 x2 x3 x7 L) := by show AllowM _ _ _ _ _ _ _ ↔ _; rw [HCC.out.1, HCC.out.2]
   have HAF : Hid (∀ ys s, AfterM zs st' x1 x2 x3 x7 L ys s → ReplM MX rs (k + 1) ys s) := fun ys s h => ⟨zs, st', ST.out.rep, by rw [HCC.out.1, HCC.out.2]; exact h⟩
   have LP1 : p1 < wr.heap.size := World.block_lt_of_cell? wr _ e0
   have LP2 : p2 < wr.heap.size := World.block_lt_of_cell? wr _ eo
   clear g2 q2 hO hin hC hL hn hres HCC HCN
   go_wp2_with fail
   go_region_held3 (fun w' => w'.cell? ⟨sz, 4, none⟩ = some (.slice (some ⟨p1, o1, none⟩) nc cc) ∧ w'.cell? ⟨sz, 5, none⟩ = some (.slice (some ⟨p2, o2, none⟩) no oc) ∧ w'.cell? ⟨p2, o2 + k, none⟩ = some (I n) ∧ w'.cell? ⟨p1, o1 + n.toNat * 9, none⟩ = some (I x0) ∧ w'.cell? ⟨p1, o1 + n.toNat * 9 + 1, none⟩ = some (I x1) ∧ w'.cell? ⟨p1, o1 + n.toNat * 9 + 2, none⟩ = some (I x2) ∧ w'.cell? ⟨p1, o1 + n.toNat * 9 + 3, none⟩ = some (I x3) ∧ w'.cell? ⟨p1, o1 + n.toNat * 9 + 4, none⟩ = some (I x4) ∧ w'.cell? ⟨p1, o1 + n.toNat * 9 + 5, none⟩ = some (I x5) ∧ w'.cell? ⟨p1, o1 + n.toNat * 9 + 6, none⟩ = some (I x6) ∧ w'.cell? ⟨p1, o1 + n.toNat * 9 + 7, none⟩ = some (I x7) ∧ w'.cell? ⟨p1, o1 + n.toNat * 9 + 8, none⟩ = some (.slice ra rn rc))
     (first | go_keep)
     (fail)
   obtain ⟨X, hX⟩ : ∃ X, (wr.alloc (.cells #[.int .i64 x0, .int .i64 x1, .int .i64 x2, .int .i64 x3, .int .i64 x4, .int .i64 x5, .int .i64 x6, .int .i64 x7, .slice ra rn rc] 63)).drew = X := ⟨_, rfl⟩
   have hbx : Below wr.heap.size wr X := by rw [← hX]; exact ((Below.refl _ wr).alloc (Nat.le_refl _) _).drew
   have BXX : Hid (Box X wr.heap.size #[.int .i64 x0, .int .i64 x1, .int .i64 x2, .int .i64 x3, .int .i64 x4, .int .i64 x5, .int .i64 x6, .int .i64 x7, .slice ra rn rc] 63) := by rw [← hX]; exact (box_of wr _ _).drew
   have HX : Hid ((wr.alloc (.cells #[.int .i64 x0, .int .i64 x1, .int .i64 x2, .int .i64 x3, .int .i64 x4, .int .i64 x5, .int .i64 x6, .int .i64 x7, .slice ra rn rc] 63)).drew = X) := hX
   have HBY : Hid (Below wr.heap.size wr X) := hbx
   have BRX : Hid (Box X rb #[.slice (some ⟨g, 0, none⟩) 4 c, .int .i64 st'] 34) := ST.out.r.below hbx LR
   clear hX hbx z0 z1 z2 z3 z4 z5 z6 z7 e0 e1 e2 e3 e4 e5 e6 e7 e8 eo r0 r1 f0 f1 c0 c1 g0 g1
   rw [HX.out]
   obtain ⟨u0, u1, u2, u3, u4, u5, u6, u7, u8⟩ := nine_of BXX.out
   obtain ⟨r0, r1, f0, f1⟩ := two_of BRX.out
   have LX : rb < X.heap.size := BRX.out.lt
   rcases B with _ | _
   · go_wp2_with fail
     refine (specAfter_any ra g 0 4 c rn rc st' x1 x2 x3 x7 zs L _ (intAt_own (owns_below ST.out.own HBY.out (Nat.le_refl _))) (HRES.out.below HBY.out (Nat.le_refl _))).mono ?_
     rintro e w5 ⟨⟨ys, s5, a5, c5, rfl, hAf, hown5⟩, hb5⟩
     obtain ⟨g5, rfl⟩ := owns_four hown5
     have hb5' : Below wr.heap.size wr w5 := HBY.out.trans (hb5.mono HBY.out.size)
     have hg5 := own_base hown5
     have hys := HBY.out.size
     have BM5 := ST.out.m.below hb5' LM
     have BO5 := ST.out.out.below hb5' (show sz + 1 < wr.heap.size by omega)
     have BR5 := ST.out.r.below hb5' LR
     obtain ⟨r0, r1, f0, f1⟩ := two_of BR5
     have L5 : rb < w5.heap.size := BR5.lt
     have hne : (Value.slice (some ⟨g5, 0, none⟩) 4 c5).ownBlock ≠ some rb := fun h => by have h2 : g5 = rb := Option.some.inj h; omega
     have ST5 : Hid (RpSt w sz rb #[.slice wa nw wc, .slice da nd dc, .slice ta nt tc, .int .i64 tm, .slice (some ⟨p1, o1, none⟩) nc cc, .slice (some ⟨p2, o2, none⟩) no oc, .slice (some ⟨p, o, none⟩) 4 hc, .int .i64 st] MX rs (k + 1) false ((w5.setCell ⟨rb, 0, none⟩ (.slice (some ⟨g5, 0, none⟩) 4 c5)).setCell ⟨rb, 1, none⟩ (.int .i64 s5)) g5 c5 ys s5) :=
       ⟨(BM5.set (show sz ≠ rb by omega) _).set (show sz ≠ rb by omega) _, (BO5.set (show sz + 1 ≠ rb by omega) _).set (show sz + 1 ≠ rb by omega) _, (BR5.put 0 _).put 1 _, own_weaken (own_setCell_far (own_setCell_far hown5 hne _) hne _) (by omega), by omega, HAF.out _ _ hAf, by rw [SoM.succ ST.out.rep]; exact ⟨(fun h => by cases h), fun h => ST.out.so.2 h.1⟩, ((ST.out.blw.trans (hb5'.mono (by omega))).setCell (show sz ≤ rb by omega) _).setCell (show sz ≤ rb by omega) _, LT⟩
     clear hAf hown5 hb5 hb5' hg5 hys BM5 BO5 BR5 hne
     go_wp2
     exact ⟨⟨k + 1, false, g5, c5, ys, s5, by omega, rfl, by go_num, ST5.out⟩, by simp [intOf]; omega⟩
   · go_wp2_with fail
     refine (specAllowed_any (some ⟨g, 0, none⟩) ra 4 c rn rc st' x1 x2 x3 x7 zs L _ (intAt_own (owns_below ST.out.own HBY.out (Nat.le_refl _))) (HRES.out.below HBY.out (Nat.le_refl _))).mono ?_
     rintro e w4 ⟨⟨ok, rfl, hok⟩, hb4⟩
     have HOKK : Hid (ok = true ↔ AllowM zs st' x1 x2 x3 x7 L) := hok
     have BX4 : Hid (Box w4 wr.heap.size #[.int .i64 x0, .int .i64 x1, .int .i64 x2, .int .i64 x3, .int .i64 x4, .int .i64 x5, .int .i64 x6, .int .i64 x7, .slice ra rn rc] 63) := BXX.out.below hb4 BXX.out.lt
     have BR4 : Hid (Box w4 rb #[.slice (some ⟨g, 0, none⟩) 4 c, .int .i64 st'] 34) := BRX.out.below hb4 BRX.out.lt
     have HBY : Hid (Below wr.heap.size wr w4) := HBY.out.trans (hb4.mono HBY.out.size)
     clear hok hb4 u0 u1 u2 u3 u4 u5 u6 u7 u8 r0 r1 f0 f1 LX
     obtain ⟨u0, u1, u2, u3, u4, u5, u6, u7, u8⟩ := nine_of BX4.out
     obtain ⟨r0, r1, f0, f1⟩ := two_of BR4.out
     have LX : rb < w4.heap.size := BR4.out.lt
     have HSO : Hid (ok = true ↔ SoM MX rs (k + 1)) := by
       show _ ↔ _
       rw [SoM.succ ST.out.rep, HAW.out, HOKK.out]
       exact ⟨fun h => ⟨ST.out.so.1 rfl, h⟩, fun h => h.2⟩
     go_wp2_with fail
     refine (specAfter_any ra g 0 4 c rn rc st' x1 x2 x3 x7 zs L _ (intAt_own (owns_below ST.out.own HBY.out (Nat.le_refl _))) (HRES.out.below HBY.out (Nat.le_refl _))).mono ?_
     rintro e w5 ⟨⟨ys, s5, a5, c5, rfl, hAf, hown5⟩, hb5⟩
     obtain ⟨g5, rfl⟩ := owns_four hown5
     have hb5' : Below wr.heap.size wr w5 := HBY.out.trans (hb5.mono HBY.out.size)
     have hg5 := own_base hown5
     have hys := HBY.out.size
     have BM5 := ST.out.m.below hb5' LM
     have BO5 := ST.out.out.below hb5' (show sz + 1 < wr.heap.size by omega)
     have BR5 := ST.out.r.below hb5' LR
     obtain ⟨r0, r1, f0, f1⟩ := two_of BR5
     have L5 : rb < w5.heap.size := BR5.lt
     have hne : (Value.slice (some ⟨g5, 0, none⟩) 4 c5).ownBlock ≠ some rb := fun h => by have h2 : g5 = rb := Option.some.inj h; omega
     have ST5 : Hid (RpSt w sz rb #[.slice wa nw wc, .slice da nd dc, .slice ta nt tc, .int .i64 tm, .slice (some ⟨p1, o1, none⟩) nc cc, .slice (some ⟨p2, o2, none⟩) no oc, .slice (some ⟨p, o, none⟩) 4 hc, .int .i64 st] MX rs (k + 1) ok ((w5.setCell ⟨rb, 0, none⟩ (.slice (some ⟨g5, 0, none⟩) 4 c5)).setCell ⟨rb, 1, none⟩ (.int .i64 s5)) g5 c5 ys s5) :=
       ⟨(BM5.set (show sz ≠ rb by omega) _).set (show sz ≠ rb by omega) _, (BO5.set (show sz + 1 ≠ rb by omega) _).set (show sz + 1 ≠ rb by omega) _, (BR5.put 0 _).put 1 _, own_weaken (own_setCell_far (own_setCell_far hown5 hne _) hne _) (by omega), by omega, HAF.out _ _ hAf, HSO.out, ((ST.out.blw.trans (hb5'.mono (by omega))).setCell (show sz ≤ rb by omega) _).setCell (show sz ≤ rb by omega) _, LT⟩
     clear hAf hown5 hb5 hb5' hg5 hys BM5 BO5 BR5 hne
     go_wp2
     exact ⟨⟨k + 1, ok, g5, c5, ys, s5, by omega, rfl, by go_num, ST5.out⟩, by simp [intOf]; omega⟩
end
end Go.Proofs.YtlkdjeneggfhgaaGreatDoor
