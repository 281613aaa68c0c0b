/- Texts joined: EqV, OwnV, Nums, Dig, Mark, Far, DrawF, ValK, BytK, MarkAt, MarkVo, DatVs, DatCs. -/
import Derived.Test.YtmgofehafjogfabKR02
import Derived.Test.YtmgofehafjogfabKR03
import Derived.Lib.ItoaNum
import Derived.Lib.ItoaLen
import Derived.Test.YtmgofehafjogfabRows
import Derived.WalkKit
import Derived.ProofKit
import Derived.Laws.BytesArg
import Derived.Test.YtmgofehafjogfabKR01
import Derived.Below
import Derived.Maps.AppendAt
import Derived.OwnWalk
import Derived.WalkSmall
import Derived.Deep.RegionHeld3
import Derived.Deep.Cut
import Derived.Handy
set_option maxHeartbeats 2000000
set_option maxRecDepth 100000
namespace Go.Proofs.Ytmgofehafjogfab
section
open Go.ChangeShapes Go.WideShapes Go.ChangeAt Go.RowKit Go.Joins
open Go.Lib (byteCells byteCells_length byteCells_append)

def celsV : List Va3 → List Cel
  | [] => []
  | x :: L => .i x.1 :: .i x.2.1 :: .s x.2.2 :: celsV L
theorem celsV_length : ∀ L : List Va3, (celsV L).length = L.length * 3
  | [] => rfl
  | x :: L => by rw [celsV]; simp [celsV_length L]; omega
theorem atL_vas {w : World} : ∀ L : List Va3, AtL false w (vaC L) (celsV L)
  | [] => AtL.nil
  | x :: L => .cons (.i x.1) (.cons (.i x.2.1) (.cons (.s x.2.2) (atL_vas L)))
theorem celsV_at : ∀ {L : List Va3} {j : Nat} {c : Cel} {t : Ty}, (celsV L)[j]? = some c → (tyValue)[j % 3]? = some t → Has c t
  | [], _, _, _, h, _ => by simp [celsV] at h
  | x :: L, 0, c, t, h, h' => by
    simp [celsV] at h
    simp [tyValue] at h'
    subst h h'
    exact .i _
  | x :: L, 1, c, t, h, h' => by
    simp [celsV] at h
    simp [tyValue] at h'
    subst h h'
    exact .i _
  | x :: L, 2, c, t, h, h' => by
    simp [celsV] at h
    simp [tyValue] at h'
    subst h h'
    exact .s _
  | x :: L, j + 3, c, t, h, h' => by
    rw [show (j + 3) % 3 = j % 3 by omega] at h'
    exact celsV_at (L := L) (j := j) (by simpa [celsV] using h) h'
theorem has_vas (L : List Va3) (n : Nat) (hn : L.length = n) : Has (.l 55 3 n (celsV L)) (.l 55 3 tyValue) :=
  .l _ _ _ _ _ rfl (by rw [celsV_length, hn]) fun _ _ _ => celsV_at
theorem at_vas {w : World} {a : Option Addr} {n c : Nat} {L : List Va3} (h : VasAt w a n L) : At false w (.slice a n c) (.l 55 3 n (celsV L)) := by
  have hL := atL_vas (w := w) L
  refine .l a 55 3 n c (celsV L) (vaC L) (by rw [vaC_length, h.1]) (by rw [celsV_length, h.1]) h.2.1 (fun e => by cases e) ?_ hL.2
  rcases h.2.2 with h0 | ⟨b, o, rfl, hc⟩
  · exact .inl h0
  · refine .inr ⟨b, o, rfl, fun j hj => ?_⟩
    obtain ⟨i, r, hr, rfl⟩ : ∃ i r, r < 3 ∧ j = i * 3 + r := ⟨j / 3, j % 3, Nat.mod_lt _ (by decide), by omega⟩
    have hi : i < n := by omega
    obtain ⟨x, hx⟩ : ∃ x, L[i]? = some x := ⟨_, List.getElem?_eq_getElem (by have := h.1; omega)⟩
    obtain ⟨e0, e1, e2⟩ := hc i x hx
    obtain ⟨a0, a1, a2⟩ := vaC_at hx
    match r, hr with
    | 0, _ => exact e0.trans a0.symm
    | 1, _ => exact e1.trans a1.symm
    | 2, _ => exact e2.trans a2.symm
theorem eqValueS_vas (a b : Option Addr) (n c d : Nat) (L : List Va3) (w : World) (h : VasAt w a n L) (h' : VasAt w b n L) :
    Calls Try.prog 11 #[.slice a n c, .slice b n d] w fun e w' => e = .returned (.bool true) ∧ Below w.heap.size w w' :=
  dEqValueS _ _ n (celsV L) w (at_vas h) (at_vas h') (has_vas L n h.1)
open Go.Lib (byteCells byteCells_length byteCells_append)
end
section
open Go.Lib
theorem dec_small {u : Nat} (h : u < 10) : decDigits u = [UInt8.ofNat (48 + u)] := by rw [decDigits, dif_pos h]
theorem dec_big {u : Nat} (h : ¬ u < 10) : decDigits u = decDigits (u / 10) ++ [UInt8.ofNat (48 + u % 10)] := by rw [decDigits, dif_neg h]

def LeftD (N k : Nat) (l : List UInt8) : Prop := (k = 0 → l = decDigits N) ∧ (0 < k → decDigits k ++ l = decDigits N)

theorem left_start (N : Nat) (h : 0 < N) : LeftD N N [] := ⟨fun e => by omega, fun _ => by simp⟩

theorem left_step {N k : Nat} {l : List UInt8} (hk : 0 < k) (h : LeftD N k l) : LeftD N (k / 10) (UInt8.ofNat (48 + k % 10) :: l) := by
  have h2 := h.2 hk
  by_cases hs : k < 10
  · rw [dec_small hs] at h2
    have e0 : k / 10 = 0 := by omega
    have e1 : k % 10 = k := by omega
    rw [e0, e1]
    exact ⟨fun _ => h2, fun e => by omega⟩
  · rw [dec_big hs] at h2
    refine ⟨fun e => by omega, fun _ => ?_⟩
    rw [← h2]; simp

theorem left_len {N k : Nat} {l : List UInt8} (h : LeftD N k l) (hN : N < 18446744073709551616) : l.length ≤ 20 := by
  have hn := nDigits_le20 N hN
  rw [← decDigits_length] at hn
  by_cases hk : k = 0
  · rw [h.1 hk]; exact hn
  · have := h.2 (by omega)
    rw [← this] at hn
    simp at hn; omega
end
section
open Go.ChangeShapes Go.WideShapes Go.ChangeAt Go.RowKit Go.Lib
theorem one_byte (w : World) (z : Int) :
    (convert 80 9 (.slice (some ⟨w.heap.size, 0, none⟩) 1 1)).run Try.prog (w.alloc (.cells #[.int .u8 z] 5)) = .ok (.string ⟨#[UInt8.ofNat z.toNat]⟩) (w.alloc (.cells #[.int .u8 z] 5)) := by
  have h := run_convert_bytes_arg (P := Try.prog) (w.alloc (.cells #[.int .u8 z] 5)) 80 5 Try.underlying80 Try.underlying5 w.heap.size 0 1 1 [z] rfl (fun i hi => by
    have : i = 0 := by omega
    subst this; simp [go_sem]) 9 Try.underlying9
  simpa [strOfNums] using h

theorem cons_str (x : UInt8) (s : ByteArray) : (({ data := #[x] } : ByteArray) ++ s).data.toList = x :: s.data.toList := by simp
theorem left_str {N k : Nat} {s : ByteArray} (hk : ¬ k = 0) (h : LeftD N k s.data.toList) : LeftD N (k / 10) (({ data := #[48 + UInt8.ofNat (k % 10)] } : ByteArray) ++ s).data.toList := by
  rw [cons_str]
  have := left_step (by omega) h
  rwa [UInt8.ofNat_add] at this
def markS (k : Nat) : List UInt8 := 109 :: decDigits k
theorem markText_any (N : Nat) (h0 : 0 < N) (hN : N ≤ 9223372036854775807) (w : World) :
    Calls Try.prog 35 #[.int .i64 (N : Int)] w fun e w' => e = .returned (.string ⟨(markS N).toArray⟩) ∧ Below w.heap.size w w' := by
  have hcv := one_byte
  go_enter Try.func35, Try.ntmps35
  go_wp2
  go_loopw [0, 3] (fun n out w' => ∃ (k : Nat) (s : ByteArray), k ≤ N ∧ n = .int .i64 k ∧ out = .string s ∧ LeftD N k s.data.toList ∧ Below w.heap.size w w') (fun n _ _ => (intOf n).toNat)
  case atStart => exact ⟨N, _, Nat.le_refl _, rfl, rfl, left_start N h0, Below.refl _ _⟩
  case round =>
    obtain ⟨k, s, hk, rfl, rfl, hL, hg⟩ := hrel
    have hsz : s.size ≤ 20 := by simpa using left_len hL (by omega)
    by_cases hz : k = 0
    · go_wp2
      go_ret
      exact ⟨ret_str (by rw [cons_str, hL.1 hz]; rfl), hg⟩
    · go_wp2
      go_roundw
      case rel =>
        exact ⟨k / 10, _, by omega, by go_num, rfl, left_str hz hL, hg.alloc hg.size _⟩
      case measure => simp [intOf]; omega
end
section
open Go.ChangeShapes Go.WideShapes Go.ChangeAt Go.RowKit
theorem far_below {w w' : World} (h : Below w.heap.size w w') (row : Option Nat) : w.grownBy w' row := ⟨h.os, h.tape, h.output, h.size, fun k hk _ => h.block k hk⟩
theorem far_only {p : Nat} {w w' : World} (h : Only p w w') : w.grownBy w' (some p) := ⟨h.os, h.tape, h.output, Nat.le_of_eq h.size.symm, fun k _ hk => h.block k (fun e => hk (by rw [e]))⟩
theorem Box.farG {w w' : World} {b p : Nat} {cs : Array Value} {T : TypeId} (h : Box w b cs T) (hg : w.grownBy w' (some p)) (hp : ¬ b = p) : Box w' b cs T := by
  unfold Box at h ⊢
  rw [hg.block b (Array.getElem?_eq_some_iff.1 h).1 (by simpa using hp)]
  exact h
theorem Box.only {w w' : World} {b p : Nat} {cs : Array Value} {T : TypeId} (h : Box w b cs T) (hO : Only p w w') (hp : ¬ b = p) : Box w' b cs T := h.farG (far_only hO) hp
def markV (i : Nat) : Va3 := ((i : Int) * 3 + 1, (i : Int) * 3 + 2, ⟨(markS (i * 3 + 3)).toArray⟩)
def marksV (n : Nat) : List Va3 := (List.range n).map markV
theorem marksV_len (n : Nat) : (marksV n).length = n := by simp [marksV]
theorem marksV_at {n i : Nat} (h : i < n) : (marksV n)[i]? = some (markV i) := by simp [marksV, h]
theorem set_three {α : Type} (a : List α) (x y z x' y' z' : α) (r : List α) (k : Nat) (hk : a.length = k) : ((((a ++ x :: y :: z :: r).set k x').set (k + 1) y').set (k + 2) z') = a ++ x' :: y' :: z' :: r := by
  subst hk
  rw [List.set_append_right _ _ (Nat.le_refl _), Nat.sub_self, List.set_cons_zero, List.set_append_right _ _ (by omega), show a.length + 1 - a.length = 0 + 1 by omega, List.set_cons_succ, List.set_cons_zero, List.set_append_right _ _ (by omega), show a.length + 2 - a.length = 0 + 1 + 1 by omega, List.set_cons_succ, List.set_cons_succ, List.set_cons_zero]
theorem markV_step (n j : Nat) (L : List Va3) (hx : L.length = n) (h : j < n) :
    (((vaC (marksV j ++ L.drop j)).set (j * 3) (.int .i64 (markV j).1)).set (j * 3 + 1) (.int .i64 (markV j).2.1)).set (j * 3 + 2) (.string (markV j).2.2) = vaC (marksV (j + 1) ++ L.drop (j + 1)) := by
  have e : marksV (j + 1) = marksV j ++ [markV j] := by simp [marksV, List.range_succ]
  rw [List.drop_eq_getElem_cons (show j < L.length by omega), vaC_append, vaC, set_three _ _ _ _ _ _ _ _ _ (by rw [vaC_length, marksV_len]), e, vaC_append, vaC_append, List.append_assoc]
  rfl
theorem grown_set {w0 w : World} {g : Nat} (h : w0.grownBy w (some g)) (i : Nat) (v : Value) : w0.grownBy (w.setCell ⟨g, i, none⟩ v) (some g) :=
  ⟨h.os, h.tape, h.output, by simpa [World.setCell] using h.size, fun k hk hr => by rw [Below.heap_setCell _ _ _ _ (fun e => hr (by simp at e; simp [e]))]; exact h.block k hk hr⟩
theorem markValueS_own (base g n cap : Nat) (L : List Va3) (w : World) (hx : L.length = n) (hn : n ≤ 2097152)
    (hown : w.ownsRow base 55 3 (.slice (some ⟨g, 0, none⟩) n cap) n (vaC L)) :
    Calls Try.prog 14 #[(.slice (some ⟨g, 0, none⟩) n cap), .int .i64 1] w fun e w' =>
      e = .returned (.int .i64 ((n : Int) * 3 + 1)) ∧ w'.ownsRow base 55 3 (.slice (some ⟨g, 0, none⟩) n cap) n (vaC (marksV n)) ∧ w.grownBy w' (some g) := by
  have HX : Hid (L.length = n) := hx
  have HOWN : Hid (w.ownsRow base 55 3 (.slice (some ⟨g, 0, none⟩) n cap) n (vaC L)) := hown
  clear hx hown
  go_enter Try.func14, Try.ntmps14
  go_wp2
  go_loopw [1, 5] (fun q i wr => ∃ j : Nat, j ≤ n ∧ q = .int .i64 ((j : Int) * 3 + 1) ∧ i = .int .i64 (j : Int) ∧ wr.ownsRow base 55 3 (.slice (some ⟨g, 0, none⟩) n cap) n (vaC (marksV j ++ L.drop j)) ∧ w.grownBy wr (some g)) (fun _ i _ => n - (intOf i).toNat)
  case atStart => exact ⟨0, Nat.zero_le _, rfl, rfl, by simpa [marksV] using HOWN.out, far_only (Only.refl g w)⟩
  case round =>
    obtain ⟨j, hj, rfl, rfl, ho, hb⟩ := hrel
    have HO : Hid (wr.ownsRow base 55 3 (.slice (some ⟨g, 0, none⟩) n cap) n (vaC (marksV j ++ L.drop j))) := ho
    have HB : Hid (w.grownBy wr (some g)) := hb
    have hj0 : (0 : Int) ≤ (j : Int) := by omega
    have hjm : (j : Int) ≤ 2097152 := by omega
    clear ho hb
    by_cases hlt : j < n
    · have hjn : (j : Int) < (n : Int) := by omega
      obtain ⟨q, hq⟩ : ∃ q : Int, (j : Int) * 3 + 1 = q := ⟨_, rfl⟩
      have HQ : Hid ((j : Int) * 3 + 1 = q) := hq
      have hq0 : 0 ≤ q := by omega
      have hq1 : q ≤ 10000000 := by omega
      rw [HQ.out]
      clear hq
      have hlen : (vaC (marksV j ++ L.drop j)).length = n * 3 := by rw [vaC_length, List.length_append, marksV_len, List.length_drop]; have := HX.out; omega
      have o1 := HO.out.stored (j * 3) (.int .i64 q)
      have o2 := o1.1.stored (j * 3 + 1) (.int .i64 (q + 1))
      obtain ⟨u0, hu0⟩ : ∃ u, (vaC (marksV j ++ L.drop j))[j * 3]? = some u := ⟨_, List.getElem?_eq_getElem (by omega)⟩
      obtain ⟨u1, hu1⟩ : ∃ u, ((vaC (marksV j ++ L.drop j)).set (j * 3) (.int .i64 q))[j * 3 + 1]? = some u := ⟨_, List.getElem?_eq_getElem (by rw [List.length_set]; omega)⟩
      obtain ⟨u2, hu2⟩ : ∃ u, (((vaC (marksV j ++ L.drop j)).set (j * 3) (.int .i64 q)).set (j * 3 + 1) (.int .i64 (q + 1)))[j * 3 + 2]? = some u := ⟨_, List.getElem?_eq_getElem (by rw [List.length_set, List.length_set]; omega)⟩
      have c0 := own_cellV HO.out hu0
      have f0 := HO.out.frozenAt (j * 3)
      have c1 := own_cellV o1.1 hu1
      have f1 := o1.1.frozenAt (j * 3 + 1)
      have O2 : Hid (((wr.setCell ⟨g, j * 3, none⟩ (.int .i64 q)).setCell ⟨g, j * 3 + 1, none⟩ (.int .i64 (q + 1))).ownsRow base 55 3 (.slice (some ⟨g, 0, none⟩) n cap) n _) := o2.1
      have HU2 := hu2
      clear hu2
      have B2 : Hid (w.grownBy ((wr.setCell ⟨g, j * 3, none⟩ (.int .i64 q)).setCell ⟨g, j * 3 + 1, none⟩ (.int .i64 (q + 1))) (some g)) := grown_set (grown_set HB.out _ _) _ _
      clear o1 o2 hu0 hu1
      go_upto_region 8 with (fail)
      have hk3 : q + 1 + 1 = ((j * 3 + 3 : Nat) : Int) := by have := HQ.out; omega
      rw [hk3]
      obtain ⟨W5, hW5⟩ : ∃ W5, (wr.setCell ⟨g, j * 3, none⟩ (.int .i64 q)).setCell ⟨g, j * 3 + 1, none⟩ (.int .i64 (q + 1)) = W5 := ⟨_, rfl⟩
      rw [hW5] at O2 B2 ⊢
      clear c0 c1 f0 f1 hk3 hW5
      go_upto_region 9 with
        (go_at_call 35
         refine (markText_any (j * 3 + 3) (by omega) (by omega) W5).mono ?_
         rintro e w6 ⟨rfl, hb6⟩
         have HB6 : Hid (Below W5.heap.size W5 w6) := hb6
         have O6 : Hid (w6.ownsRow base 55 3 (.slice (some ⟨g, 0, none⟩) n cap) n _) := owns_below O2.out hb6 (Nat.le_refl _)
         have c2 := own_cellV O6.out HU2
         have f2 := O6.out.frozenAt (j * 3 + 2)
         clear hb6)
      have o7 := (O6.out.stored (j * 3 + 2) (.string ⟨(markS (j * 3 + 3)).toArray⟩)).1
      have e1 : Value.int .i64 q = .int .i64 (markV j).1 := by rw [← HQ.out]; rfl
      have e2 : Value.int .i64 (q + 1) = .int .i64 (markV j).2.1 := by rw [← HQ.out]; show Value.int .i64 _ = .int .i64 ((j : Int) * 3 + 2); rw [show (j : Int) * 3 + 1 + 1 = (j : Int) * 3 + 2 by omega]
      rw [e1, e2, show Value.string ⟨(markS (j * 3 + 3)).toArray⟩ = .string (markV j).2.2 from rfl, markV_step n j L HX.out hlt] at o7
      have O7 : Hid (World.ownsRow _ base 55 3 (.slice (some ⟨g, 0, none⟩) n cap) n (vaC (marksV (j + 1) ++ L.drop (j + 1)))) := o7
      have B7 : Hid (w.grownBy (w6.setCell ⟨g, j * 3 + 2, none⟩ (.string ⟨(markS (j * 3 + 3)).toArray⟩)) (some g)) := grown_set (B2.out.trans (far_below HB6.out _)) _ _
      clear o7 e1 e2 c2 f2
      go_wp2
      go_roundw
      case rel => exact ⟨j + 1, by omega, by go_num, by go_num, O7.out, B7.out⟩
      case measure => simp [intOf]; omega
    · obtain rfl : n = j := by omega
      have ho := HO.out
      rw [List.drop_of_length_le (by have := HX.out; omega), List.append_nil] at ho
      have HO' := Hid.out (p := World.ownsRow _ _ _ _ _ _ _) ho
      go_wp2
      go_ret
      exact ⟨rfl, HO', HB.out⟩
theorem markValueS_none (cap : Nat) (w : World) :
    Calls Try.prog 14 #[.slice none 0 cap, .int .i64 1] w fun e w' => e = .returned (.int .i64 1) ∧ w' = w := by
  go_enter Try.func14, Try.ntmps14
  go_wp2
  go_loopw [1, 5] (fun q i wr => q = .int .i64 1 ∧ i = .int .i64 0 ∧ wr = w) (fun _ _ _ => 0)
  case atStart => exact ⟨rfl, rfl, rfl⟩
  case round =>
    obtain ⟨rfl, rfl, rfl⟩ := hrel
    go_wp2
    go_ret
    exact ⟨rfl, rfl⟩
theorem heldValueS_any (a : Option Addr) (n cap : Nat) (w : World) (h : VasAt w a n (marksV n)) :
    Calls Try.prog 15 #[.slice a n cap, .int .i64 1] w fun e w' => e = .returned (.int .i64 ((n : Int) * 3 + 1)) ∧ Below w.heap.size w w' := by
  have HA : Hid (VasAt w a n (marksV n)) := h
  have hn := h.2.1
  clear h
  go_enter Try.func15, Try.ntmps15
  go_wp2
  go_loopw [1, 5] (fun q i wr => ∃ j : Nat, j ≤ n ∧ q = .int .i64 ((j : Int) * 3 + 1) ∧ i = .int .i64 (j : Int) ∧ Below w.heap.size w wr) (fun _ i _ => n - (intOf i).toNat)
  case atStart => exact ⟨0, Nat.zero_le _, rfl, rfl, Below.refl _ _⟩
  case round =>
    obtain ⟨j, hj, rfl, rfl, hb⟩ := hrel
    have HB : Hid (Below w.heap.size w wr) := hb
    have hj0 : (0 : Int) ≤ (j : Int) := by omega
    have hjm : (j : Int) ≤ 2097152 := by omega
    clear hb
    by_cases hlt : j < n
    · rcases (HA.out.below HB.out (Nat.le_refl _)).2.2 with h0 | ⟨b, o, rfl, g1⟩
      · omega
      obtain ⟨e1, e2, e3⟩ := g1 j _ (marksV_at hlt)
      have hjn : (j : Int) < (n : Int) := by omega
      obtain ⟨q, hq⟩ : ∃ q : Int, (j : Int) * 3 + 1 = q := ⟨_, rfl⟩
      have HQ : Hid ((j : Int) * 3 + 1 = q) := hq
      have hq0 : 0 ≤ q := by omega
      have hq1 : q ≤ 10000000 := by omega
      have e1' : wr.cell? ⟨b, o + j * 3, none⟩ = some (.int .i64 q) := by rw [e1, ← hq]; rfl
      have e2' : wr.cell? ⟨b, o + j * 3 + 1, none⟩ = some (.int .i64 (q + 1)) := by rw [e2, ← hq]; show some (Value.int .i64 ((j : Int) * 3 + 2)) = _; rw [show (j : Int) * 3 + 1 + 1 = (j : Int) * 3 + 2 by omega]
      have e3' : wr.cell? ⟨b, o + j * 3 + 2, none⟩ = some (.string ⟨(markS (j * 3 + 3)).toArray⟩) := e3
      have LB : b < wr.heap.size := World.block_lt_of_cell? wr _ e3
      have K0 : Hid (wr.drew.cell? ⟨b, o + j * 3 + 2, none⟩ = some (.string ⟨(markS (j * 3 + 3)).toArray⟩)) := e3
      rw [HQ.out]
      clear g1 e1 e2 e3 hq
      go_upto_region 10 with (fail)
      have hk3 : q + 1 + 1 = ((j * 3 + 3 : Nat) : Int) := by have := HQ.out; omega
      rw [hk3]
      clear hk3 e1' e2'
      go_region_held3 (fun w' => w'.cell? ⟨b, o + j * 3 + 2, none⟩ = some (.string ⟨(markS (j * 3 + 3)).toArray⟩))
        (first | (with_reducible exact K1.out) | (with_reducible exact K0.out) | go_keep)
        (first
        | (go_at_call 35
           refine (markText_any (j * 3 + 3) (by omega) (by omega) _).mono ?_
           rintro e w6 ⟨rfl, hb6⟩
           have hb6' : Below wr.heap.size wr w6 := (Below.refl _ wr).drew.trans hb6
           have HB6 : Hid (Below wr.heap.size wr w6) := hb6'
           have K1 : Hid (w6.cell? ⟨b, o + j * 3 + 2, none⟩ = some (.string ⟨(markS (j * 3 + 3)).toArray⟩)) := (hb6'.cell LB).trans e3'
           clear hb6 hb6'))
      clear e3'
      go_wp2
      go_roundw
      case rel => exact ⟨j + 1, by omega, by go_num, by go_num, HB.out.trans (HB6.out.mono HB.out.size)⟩
      case measure => simp [intOf]; omega
    · obtain rfl : n = j := by omega
      go_wp2
      go_ret
      exact ⟨rfl, HB.out⟩
open Go.Lib (byteCells byteCells_length byteCells_append)

def marksB (n : Nat) : List UInt8 := (List.range n).map fun i => UInt8.ofNat ((i + 1) % 256)
def uptoB (xs : List UInt8) (k n : Nat) : List UInt8 := xs.take k ++ List.replicate (n - k) 0
end
section
open Go.ChangeShapes Go.WideShapes Go.ChangeAt Go.RowKit Go.Joins
open Go.Lib (byteCells byteCells_length byteCells_append)

theorem own_far {w w' : World} {base : Nat} {e : TypeId} {size n : Nat} {v : Value} {xs : List Value} {blk : Option Nat} (h : w.ownsRow base e size v n xs) (hg : w.grownBy w' blk) (hne : ∀ k, v.ownBlock = some k → ¬ some k = blk) : w'.ownsRow base e size v n xs :=
  owns_heap h fun k hk => hg.block k (by
    rcases h.2 with ⟨rfl, _⟩ | ⟨g, cap, cur, rfl, _, hh, _⟩
    · cases hk
    · cases hk; exact (Array.getElem?_eq_some_iff.1 hh).1) (hne k hk)
theorem own_lt {w : World} {base : Nat} {e : TypeId} {size n : Nat} {v : Value} {xs : List Value} (h : w.ownsRow base e size v n xs) : ∀ k, v.ownBlock = some k → k < w.heap.size := by
  intro k hk
  rcases h.2 with ⟨rfl, _⟩ | ⟨g, cap, cur, rfl, _, hh, _⟩
  · cases hk
  · cases hk; exact (Array.getElem?_eq_some_iff.1 hh).1
open Go.Lib (byteCells byteCells_length byteCells_append)

theorem markVOwn_at (base : Nat) (L : List Va3) (v : Value) (w : World) (hn : L.length ≤ 2097152) (h : VOwn w base v L) :
    Calls Try.prog 14 #[v, .int .i64 1] w fun e w' => e = .returned (.int .i64 ((L.length : Int) * 3 + 1)) ∧ VOwn w' base v (marksV L.length) ∧ w.grownBy w' v.ownBlock := by
  rcases owns_forms h with ⟨rfl, h0⟩ | ⟨g, cap, rfl⟩
  · have hl : L = [] := List.length_eq_zero_iff.1 h0
    subst hl
    refine (markValueS_none 0 w).mono ?_
    rintro e w' ⟨rfl, rfl⟩
    exact ⟨rfl, h, far_below (Below.refl _ _) _⟩
  · refine (markValueS_own base g L.length cap L w rfl hn h).mono ?_
    rintro e w' ⟨rfl, h1, h2⟩
    refine ⟨rfl, ?_, h2⟩
    unfold VOwn
    rw [marksV_len]
    exact h1
set_option linter.unusedSimpArgs false

theorem dSzValue (vs : List Value) (cs : List Cel) (left : Int) (w : World) (h : InL w vs cs) (hs : HasL cs tyValue) (h0 : 0 ≤ left) (h1 : left ≤ 2097152) : Calls Try.prog 21 #[.agg vs.toArray, .int .i64 left] w (Left w (bigL cs) left) := by
  obtain ⟨c0, r0, rfl, T0, hH0⟩ := hs.cons
  obtain ⟨c1, r1, rfl, T1, hH1⟩ := hH0.cons
  obtain ⟨c2, r2, rfl, T2, hH2⟩ := hH1.cons
  obtain rfl := hH2.nil
  obtain ⟨v0, vr0, rfl, A0, hA0⟩ := h.consE
  obtain ⟨v1, vr1, rfl, A1, hA1⟩ := hA0.consE
  obtain ⟨v2, vr2, rfl, A2, hA2⟩ := hA1.consE
  obtain rfl := hA2.nilE
  obtain ⟨x0, rfl⟩ := T0.int
  obtain rfl := A0.int
  obtain ⟨x1, rfl⟩ := T1.int
  obtain rfl := A1.int
  obtain ⟨x2, rfl⟩ := T2.str
  obtain ⟨rfl, hx2⟩ := A2.strL
  clear hs h hA0 hH0 T0 A0 hA1 hH1 T1 A1 hA2 hH2 T2 A2
  obtain ⟨W, hW⟩ : ∃ W, w.alloc (.cells #[.int .i64 x0, .int .i64 x1, .string x2] 50) = W := ⟨_, rfl⟩
  have t0 : Hid (One w W #[.int .i64 x0, .int .i64 x1, .string x2] 50) := by rw [← hW]; exact one_new w _ _
  have HW : Hid _ := hW
  clear hW
  go_enter Try.func21, Try.ntmps21
  go_upto_region 1 with (fail)
  rw [HW.out]
  have ax0 : W.cell? ⟨w.heap.size, 0, none⟩ = some (.int .i64 x0) := t0.out.a.cell 0
  have ax1 : W.cell? ⟨w.heap.size, 1, none⟩ = some (.int .i64 x1) := t0.out.a.cell 1
  have ax2 : W.cell? ⟨w.heap.size, 2, none⟩ = some (.string x2) := t0.out.a.cell 2
  have gl2 : 0 ≤ left := by omega
  have gu2 : left ≤ 2097152 := by omega
  by_cases hl2 : (x2.size : Int) ≤ left
  rotate_left
  · have h2 : left - (x2.size : Int) < 0 := by omega
    go_wp2
    go_ret
    refine ⟨t0.out.on, .inr ⟨rfl, ?_⟩⟩
    have e : bigL [.i x0, .i x1, .s x2] = x2.size := by simp [bigL, Cel.big]; try omega
    rw [e]
    (try simp only [bigL, Cel.big] at *)
    omega
  have g2' : ¬ (left - (x2.size : Int) < 0) := by omega
  go_wp2
  go_ret
  refine ⟨t0.out.on, .inl ⟨_, rfl, ?_⟩⟩
  have e : bigL [.i x0, .i x1, .s x2] = x2.size := by simp [bigL, Cel.big]; try omega
  rw [e]
  (try simp only [bigL, Cel.big] at *)
  exact ⟨by omega, by first | trivial | rfl | omega⟩
theorem dSzValueS (v : Value) (n : Nat) (cs : List Cel) (left : Int) (w : World) (h : In w v (.l 55 3 n cs)) (hs : Has (.l 55 3 n cs) (.l 55 3 tyValue)) (h0 : 0 ≤ left) (h1 : left ≤ 2097152) :
    Calls Try.prog 6 #[v, .int .i64 left] w (Left w (n + bigL cs) left) := by
  obtain ⟨a, c, vs, rfl, h2, h3, hn, h4, h5⟩ := h.openL
  have SRC : Hid (n = 0 ∨ ∃ b o, a = some ⟨b, o, none⟩ ∧ ∀ j, j < n * 3 → w.cell? ⟨b, o + j, none⟩ = vs[j]?) := h4
  have HV : Hid (∀ j, j < n → InL w ((vs.drop (j * 3)).take 3) (row cs 3 j)) := fun j hj => rowIn h2 h3 h5 hj
  have HR : Hid (∀ j, j < n → HasL (row cs 3 j) tyValue) := fun j hj => hs.rowL hj
  have L1 : Hid (vs.length = n * 3) := h2
  have L2 : Hid (cs.length = n * 3) := h3
  clear h h2 h3 h4 h5 hs
  by_cases hl : (n : Int) ≤ left
  rotate_left
  · have h2 : left - (n : Int) < 0 := by omega
    go_enter Try.func6, Try.ntmps6
    go_wp2
    go_ret
    exact ⟨Below.refl _ _, .inr ⟨rfl, by omega⟩⟩
  have h2 : ¬ (left - (n : Int) < 0) := by omega
  go_enter Try.func6, Try.ntmps6
  go_wp2
  go_loopw [1, 5] (fun l i wr => ∃ (j : Nat) (r : Int), j ≤ n ∧ l = .int .i64 r ∧ i = .int .i64 (j : Int) ∧ 0 ≤ r ∧ r = left - (n : Int) - (bigL (cs.take (j * 3)) : Int) ∧ Below w.heap.size w wr) (fun _ i _ => n - (intOf i).toNat)
  case atStart => exact ⟨0, left - n, Nat.zero_le _, rfl, rfl, by omega, by simp [bigL], Below.refl _ _⟩
  case round =>
    obtain ⟨j, r, hj, rfl, rfl, hr0, hr1, hb⟩ := hrel
    have HQ : Hid (r = left - (n : Int) - (bigL (cs.take (j * 3)) : Int)) := hr1
    have hr2 : r ≤ 2097152 := by omega
    clear hr1
    by_cases hlt : j < n
    · rcases SRC.out with h0' | ⟨p1, o1, rfl, g1⟩
      · omega
      have hk0 : (0 : Int) ≤ (j : Int) := by omega
      have hk1 : (j : Int) < (n : Int) := by omega
      have hle : j * 3 + 3 ≤ n * 3 := by omega
      have hA := HV.out j hlt
      have hH := HR.out j hlt
      have ce : ∀ i, i < 3 → wr.cell? ⟨p1, o1 + (j * 3 + i), none⟩ = ((vs.drop (j * 3)).take 3)[i]? := fun i hi => by
        have h5 := g1 (j * 3 + i) (by omega)
        rw [List.getElem?_take_of_lt hi, List.getElem?_drop, ← h5]
        have h6 : w.cell? ⟨p1, o1 + (j * 3 + i), none⟩ = some (vs[j * 3 + i]'(by have := L1.out; omega)) := by rw [h5, List.getElem?_eq_getElem (by have := L1.out; omega)]
        exact hb.cell (show p1 < w.heap.size from World.block_lt_of_cell? w _ h6)
      obtain ⟨rs, hrs⟩ : ∃ rs, row cs 3 j = rs := ⟨_, rfl⟩
      obtain ⟨ws, hws⟩ : ∃ ws, (vs.drop (j * 3)).take 3 = ws := ⟨_, rfl⟩
      have HRS : Hid (row cs 3 j = rs) := hrs
      rw [hrs] at hA hH
      rw [hws] at hA ce
      clear g1 hrs hws
      obtain ⟨c0, r0, rfl, T0, hH0⟩ := hH.cons
      obtain ⟨c1, r1, rfl, T1, hH1⟩ := hH0.cons
      obtain ⟨c2, r2, rfl, T2, hH2⟩ := hH1.cons
      obtain rfl := hH2.nil
      have HL0 : Hid (HasL [c0, c1, c2] tyValue) := hH
      obtain ⟨v0, vr0, rfl, A0, hA0⟩ := hA.consE
      obtain ⟨v1, vr1, rfl, A1, hA1⟩ := hA0.consE
      obtain ⟨v2, vr2, rfl, A2, hA2⟩ := hA1.consE
      obtain rfl := hA2.nilE
      have HA0 : Hid (InL w [v0, v1, v2] [c0, c1, c2]) := hA
      have e0 : wr.cell? ⟨p1, o1 + j * 3, none⟩ = some v0 := ce 0 (by omega)
      have e1 : wr.cell? ⟨p1, o1 + j * 3 + 1, none⟩ = some v1 := ce 1 (by omega)
      have e2 : wr.cell? ⟨p1, o1 + j * 3 + 2, none⟩ = some v2 := ce 2 (by omega)
      clear ce hA hH hA0 hH0 T0 A0 hA1 hH1 T1 A1 hA2 hH2 T2 A2
      obtain ⟨m, hm⟩ : ∃ m, bigL [c0, c1, c2] = m := ⟨_, rfl⟩
      have HM : Hid (bigL (cs.take ((j + 1) * 3)) = bigL (cs.take (j * 3)) + m) := by show _ = _; rw [row_split, bigL_append, HRS.out, hm]
      have MON : Hid (bigL (cs.take ((j + 1) * 3)) ≤ bigL cs) := by
        show _ ≤ _
        have := bigL_append (cs.take ((j + 1) * 3)) (cs.drop ((j + 1) * 3))
        rw [List.take_append_drop] at this
        omega
      go_wp2_with fail
      refine (dSzValue [v0, v1, v2] [c0, c1, c2] _ _ (HA0.out.on hb (Nat.le_refl _)) HL0.out hr0 hr2).mono ?_
      rintro e w2 ⟨hb2, hc⟩
      rw [hm] at hc
      have hb02 : Below w.heap.size w w2 := hb.trans (hb2.mono hb.size)
      clear hb2 hm e0 e1 e2
      rcases hc with ⟨r2, rfl, hq1, rfl⟩ | ⟨rfl, hq⟩
      · have g : ¬ r - (m : Int) < 0 := by omega
        go_wp2
        exact ⟨⟨j + 1, r - (m : Int), by omega, rfl, by go_num, by omega, by have h5 := HM.out; have h6 := HQ.out; omega, hb02⟩, by simp [intOf]; omega⟩
      · go_wp2
        go_ret
        exact ⟨hb02, .inr ⟨rfl, by have h5 := HM.out; have h6 := HQ.out; have h7 := MON.out; omega⟩⟩
    · obtain rfl : j = n := by omega
      have HE : Hid (cs.take (j * 3) = cs) := List.take_of_length_le (by have := L2.out; omega)
      go_wp2
      go_ret
      refine ⟨hb, .inl ⟨_, rfl, ?_⟩⟩
      have h6 := HQ.out
      rw [HE.out] at h6
      omega
set_option linter.unusedSimpArgs false

theorem dSzIntS (v : Value) (n : Nat) (cs : List Cel) (left : Int) (w : World) (h : In w v (.l 3 1 n cs)) (hs : Has (.l 3 1 n cs) (.l 3 1 [.i])) (h0 : 0 ≤ left) (h1 : left ≤ 2097152) :
    Calls Try.prog 19 #[v, .int .i64 left] w (Left w (n + bigL cs) left) := by
  have hz := big_flat hs (by decide)
  obtain ⟨a, c, vs, rfl, -, -, hn, -, -⟩ := h.openL
  have HZ : Hid (n + bigL cs = n) := by show _ = _; omega
  clear hs hz
  by_cases hl : (n : Int) ≤ left
  · have h2 : ¬ (left - (n : Int) < 0) := by omega
    go_enter Try.func19, Try.ntmps19
    go_wp2
    go_ret
    refine ⟨Below.refl _ _, .inl ⟨_, rfl, ?_⟩⟩
    rw [HZ.out]
    exact ⟨hl, rfl⟩
  · have h2 : left - (n : Int) < 0 := by omega
    go_enter Try.func19, Try.ntmps19
    go_wp2
    go_ret
    refine ⟨Below.refl _ _, .inr ⟨rfl, ?_⟩⟩
    rw [HZ.out]
    omega
theorem dSzCol (vs : List Value) (cs : List Cel) (left : Int) (w : World) (h : InL w vs cs) (hs : HasL cs tyCol) (h0 : 0 ≤ left) (h1 : left ≤ 2097152) : Calls Try.prog 37 #[.agg vs.toArray, .int .i64 left] w (Left w (bigL cs) left) := by
  obtain ⟨c0, r0, rfl, T0, hH0⟩ := hs.cons
  obtain ⟨c1, r1, rfl, T1, hH1⟩ := hH0.cons
  obtain ⟨c2, r2, rfl, T2, hH2⟩ := hH1.cons
  obtain rfl := hH2.nil
  obtain ⟨v0, vr0, rfl, A0, hA0⟩ := h.consE
  obtain ⟨v1, vr1, rfl, A1, hA1⟩ := hA0.consE
  obtain ⟨v2, vr2, rfl, A2, hA2⟩ := hA1.consE
  obtain rfl := hA2.nilE
  obtain ⟨x0, rfl⟩ := T0.str
  obtain ⟨rfl, hx0⟩ := A0.strL
  obtain ⟨x1, rfl⟩ := T1.int
  obtain rfl := A1.int
  obtain ⟨x2, rfl⟩ := T2.bool
  obtain rfl := A2.bool
  clear hs h hA0 hH0 T0 A0 hA1 hH1 T1 A1 hA2 hH2 T2 A2
  obtain ⟨W, hW⟩ : ∃ W, w.alloc (.cells #[.string x0, .int .i64 x1, .bool x2] 69) = W := ⟨_, rfl⟩
  have t0 : Hid (One w W #[.string x0, .int .i64 x1, .bool x2] 69) := by rw [← hW]; exact one_new w _ _
  have HW : Hid _ := hW
  clear hW
  go_enter Try.func37, Try.ntmps37
  go_upto_region 1 with (fail)
  rw [HW.out]
  have ax0 : W.cell? ⟨w.heap.size, 0, none⟩ = some (.string x0) := t0.out.a.cell 0
  have ax1 : W.cell? ⟨w.heap.size, 1, none⟩ = some (.int .i64 x1) := t0.out.a.cell 1
  have ax2 : W.cell? ⟨w.heap.size, 2, none⟩ = some (.bool x2) := t0.out.a.cell 2
  have gl0 : 0 ≤ left := by omega
  have gu0 : left ≤ 2097152 := by omega
  by_cases hl0 : (x0.size : Int) ≤ left
  rotate_left
  · have h2 : left - (x0.size : Int) < 0 := by omega
    go_wp2
    go_ret
    refine ⟨t0.out.on, .inr ⟨rfl, ?_⟩⟩
    have e : bigL [.s x0, .i x1, .b x2] = x0.size := by simp [bigL, Cel.big]; try omega
    rw [e]
    (try simp only [bigL, Cel.big] at *)
    omega
  have g0' : ¬ (left - (x0.size : Int) < 0) := by omega
  go_wp2
  go_ret
  refine ⟨t0.out.on, .inl ⟨_, rfl, ?_⟩⟩
  have e : bigL [.s x0, .i x1, .b x2] = x0.size := by simp [bigL, Cel.big]; try omega
  rw [e]
  (try simp only [bigL, Cel.big] at *)
  exact ⟨by omega, by first | trivial | rfl | omega⟩
theorem dSzColS (v : Value) (n : Nat) (cs : List Cel) (left : Int) (w : World) (h : In w v (.l 65 3 n cs)) (hs : Has (.l 65 3 n cs) (.l 65 3 tyCol)) (h0 : 0 ≤ left) (h1 : left ≤ 2097152) :
    Calls Try.prog 18 #[v, .int .i64 left] w (Left w (n + bigL cs) left) := by
  obtain ⟨a, c, vs, rfl, h2, h3, hn, h4, h5⟩ := h.openL
  have SRC : Hid (n = 0 ∨ ∃ b o, a = some ⟨b, o, none⟩ ∧ ∀ j, j < n * 3 → w.cell? ⟨b, o + j, none⟩ = vs[j]?) := h4
  have HV : Hid (∀ j, j < n → InL w ((vs.drop (j * 3)).take 3) (row cs 3 j)) := fun j hj => rowIn h2 h3 h5 hj
  have HR : Hid (∀ j, j < n → HasL (row cs 3 j) tyCol) := fun j hj => hs.rowL hj
  have L1 : Hid (vs.length = n * 3) := h2
  have L2 : Hid (cs.length = n * 3) := h3
  clear h h2 h3 h4 h5 hs
  by_cases hl : (n : Int) ≤ left
  rotate_left
  · have h2 : left - (n : Int) < 0 := by omega
    go_enter Try.func18, Try.ntmps18
    go_wp2
    go_ret
    exact ⟨Below.refl _ _, .inr ⟨rfl, by omega⟩⟩
  have h2 : ¬ (left - (n : Int) < 0) := by omega
  go_enter Try.func18, Try.ntmps18
  go_wp2
  go_loopw [1, 5] (fun l i wr => ∃ (j : Nat) (r : Int), j ≤ n ∧ l = .int .i64 r ∧ i = .int .i64 (j : Int) ∧ 0 ≤ r ∧ r = left - (n : Int) - (bigL (cs.take (j * 3)) : Int) ∧ Below w.heap.size w wr) (fun _ i _ => n - (intOf i).toNat)
  case atStart => exact ⟨0, left - n, Nat.zero_le _, rfl, rfl, by omega, by simp [bigL], Below.refl _ _⟩
  case round =>
    obtain ⟨j, r, hj, rfl, rfl, hr0, hr1, hb⟩ := hrel
    have HQ : Hid (r = left - (n : Int) - (bigL (cs.take (j * 3)) : Int)) := hr1
    have hr2 : r ≤ 2097152 := by omega
    clear hr1
    by_cases hlt : j < n
    · rcases SRC.out with h0' | ⟨p1, o1, rfl, g1⟩
      · omega
      have hk0 : (0 : Int) ≤ (j : Int) := by omega
      have hk1 : (j : Int) < (n : Int) := by omega
      have hle : j * 3 + 3 ≤ n * 3 := by omega
      have hA := HV.out j hlt
      have hH := HR.out j hlt
      have ce : ∀ i, i < 3 → wr.cell? ⟨p1, o1 + (j * 3 + i), none⟩ = ((vs.drop (j * 3)).take 3)[i]? := fun i hi => by
        have h5 := g1 (j * 3 + i) (by omega)
        rw [List.getElem?_take_of_lt hi, List.getElem?_drop, ← h5]
        have h6 : w.cell? ⟨p1, o1 + (j * 3 + i), none⟩ = some (vs[j * 3 + i]'(by have := L1.out; omega)) := by rw [h5, List.getElem?_eq_getElem (by have := L1.out; omega)]
        exact hb.cell (show p1 < w.heap.size from World.block_lt_of_cell? w _ h6)
      obtain ⟨rs, hrs⟩ : ∃ rs, row cs 3 j = rs := ⟨_, rfl⟩
      obtain ⟨ws, hws⟩ : ∃ ws, (vs.drop (j * 3)).take 3 = ws := ⟨_, rfl⟩
      have HRS : Hid (row cs 3 j = rs) := hrs
      rw [hrs] at hA hH
      rw [hws] at hA ce
      clear g1 hrs hws
      obtain ⟨c0, r0, rfl, T0, hH0⟩ := hH.cons
      obtain ⟨c1, r1, rfl, T1, hH1⟩ := hH0.cons
      obtain ⟨c2, r2, rfl, T2, hH2⟩ := hH1.cons
      obtain rfl := hH2.nil
      have HL0 : Hid (HasL [c0, c1, c2] tyCol) := hH
      obtain ⟨v0, vr0, rfl, A0, hA0⟩ := hA.consE
      obtain ⟨v1, vr1, rfl, A1, hA1⟩ := hA0.consE
      obtain ⟨v2, vr2, rfl, A2, hA2⟩ := hA1.consE
      obtain rfl := hA2.nilE
      have HA0 : Hid (InL w [v0, v1, v2] [c0, c1, c2]) := hA
      have e0 : wr.cell? ⟨p1, o1 + j * 3, none⟩ = some v0 := ce 0 (by omega)
      have e1 : wr.cell? ⟨p1, o1 + j * 3 + 1, none⟩ = some v1 := ce 1 (by omega)
      have e2 : wr.cell? ⟨p1, o1 + j * 3 + 2, none⟩ = some v2 := ce 2 (by omega)
      clear ce hA hH hA0 hH0 T0 A0 hA1 hH1 T1 A1 hA2 hH2 T2 A2
      obtain ⟨m, hm⟩ : ∃ m, bigL [c0, c1, c2] = m := ⟨_, rfl⟩
      have HM : Hid (bigL (cs.take ((j + 1) * 3)) = bigL (cs.take (j * 3)) + m) := by show _ = _; rw [row_split, bigL_append, HRS.out, hm]
      have MON : Hid (bigL (cs.take ((j + 1) * 3)) ≤ bigL cs) := by
        show _ ≤ _
        have := bigL_append (cs.take ((j + 1) * 3)) (cs.drop ((j + 1) * 3))
        rw [List.take_append_drop] at this
        omega
      go_wp2_with fail
      refine (dSzCol [v0, v1, v2] [c0, c1, c2] _ _ (HA0.out.on hb (Nat.le_refl _)) HL0.out hr0 hr2).mono ?_
      rintro e w2 ⟨hb2, hc⟩
      rw [hm] at hc
      have hb02 : Below w.heap.size w w2 := hb.trans (hb2.mono hb.size)
      clear hb2 hm e0 e1 e2
      rcases hc with ⟨r2, rfl, hq1, rfl⟩ | ⟨rfl, hq⟩
      · have g : ¬ r - (m : Int) < 0 := by omega
        go_wp2
        exact ⟨⟨j + 1, r - (m : Int), by omega, rfl, by go_num, by omega, by have h5 := HM.out; have h6 := HQ.out; omega, hb02⟩, by simp [intOf]; omega⟩
      · go_wp2
        go_ret
        exact ⟨hb02, .inr ⟨rfl, by have h5 := HM.out; have h6 := HQ.out; have h7 := MON.out; omega⟩⟩
    · obtain rfl : j = n := by omega
      have HE : Hid (cs.take (j * 3) = cs) := List.take_of_length_le (by have := L2.out; omega)
      go_wp2
      go_ret
      refine ⟨hb, .inl ⟨_, rfl, ?_⟩⟩
      have h6 := HQ.out
      rw [HE.out] at h6
      omega
theorem dSzIndex (vs : List Value) (cs : List Cel) (left : Int) (w : World) (h : InL w vs cs) (hs : HasL cs tyIndex) (h0 : 0 ≤ left) (h1 : left ≤ 2097152) : Calls Try.prog 38 #[.agg vs.toArray, .int .i64 left] w (Left w (bigL cs) left) := by
  obtain ⟨c0, r0, rfl, T0, hH0⟩ := hs.cons
  obtain ⟨c1, r1, rfl, T1, hH1⟩ := hH0.cons
  obtain ⟨c2, r2, rfl, T2, hH2⟩ := hH1.cons
  obtain rfl := hH2.nil
  obtain ⟨v0, vr0, rfl, A0, hA0⟩ := h.consE
  obtain ⟨v1, vr1, rfl, A1, hA1⟩ := hA0.consE
  obtain ⟨v2, vr2, rfl, A2, hA2⟩ := hA1.consE
  obtain rfl := hA2.nilE
  obtain ⟨x0, rfl⟩ := T0.str
  obtain ⟨rfl, hx0⟩ := A0.strL
  obtain ⟨n1, cs1, rfl, -⟩ := T1.list
  have HT1 : Hid (Has (.l 3 1 n1 cs1) (.l 3 1 [.i])) := T1
  have hA1' : Hid (In w v1 (.l 3 1 n1 cs1)) := A1
  obtain ⟨x2, rfl⟩ := T2.bool
  obtain rfl := A2.bool
  clear hs h hA0 hH0 T0 A0 hA1 hH1 T1 A1 hA2 hH2 T2 A2
  obtain ⟨W, hW⟩ : ∃ W, w.alloc (.cells #[.string x0, v1, .bool x2] 72) = W := ⟨_, rfl⟩
  have t0 : Hid (One w W #[.string x0, v1, .bool x2] 72) := by rw [← hW]; exact one_new w _ _
  have HW : Hid _ := hW
  clear hW
  go_enter Try.func38, Try.ntmps38
  go_upto_region 1 with (fail)
  rw [HW.out]
  have ax0 : W.cell? ⟨w.heap.size, 0, none⟩ = some (.string x0) := t0.out.a.cell 0
  have ax1 : W.cell? ⟨w.heap.size, 1, none⟩ = some (v1) := t0.out.a.cell 1
  have ax2 : W.cell? ⟨w.heap.size, 2, none⟩ = some (.bool x2) := t0.out.a.cell 2
  have gl0 : 0 ≤ left := by omega
  have gu0 : left ≤ 2097152 := by omega
  by_cases hl0 : (x0.size : Int) ≤ left
  rotate_left
  · have h2 : left - (x0.size : Int) < 0 := by omega
    go_wp2
    go_ret
    refine ⟨t0.out.on, .inr ⟨rfl, ?_⟩⟩
    have e : bigL [.s x0, .l 3 1 n1 cs1, .b x2] = x0.size + (n1 + bigL cs1) := by simp [bigL, Cel.big]; try omega
    rw [e]
    (try simp only [bigL, Cel.big] at *)
    omega
  have g0' : ¬ (left - (x0.size : Int) < 0) := by omega
  go_wp2_with fail
  refine (dSzIntS v1 n1 cs1 _ _ (hA1'.out.on t0.out.on (Nat.le_refl _)) HT1.out (by omega) (by omega)).mono ?_
  rintro e w1 ⟨hb, hc⟩
  obtain ⟨m1, hm1⟩ : ∃ m, n1 + bigL cs1 = m := ⟨_, rfl⟩
  rw [hm1] at hc
  have HM1 : Hid (n1 + bigL cs1 = m1) := hm1
  clear hm1
  have t1 : Hid (One w w1 #[.string x0, v1, .bool x2] 72) := t0.out.call hb
  clear hb ax0 ax1 ax2
  have ax0 : w1.cell? ⟨w.heap.size, 0, none⟩ = some (.string x0) := t1.out.a.cell 0
  have ax1 : w1.cell? ⟨w.heap.size, 1, none⟩ = some (v1) := t1.out.a.cell 1
  have ax2 : w1.cell? ⟨w.heap.size, 2, none⟩ = some (.bool x2) := t1.out.a.cell 2
  rcases hc with ⟨r1, rfl, hr1, hq1⟩ | ⟨rfl, hr1⟩
  rotate_left
  · go_wp2
    go_ret
    refine ⟨t1.out.on, .inr ⟨rfl, ?_⟩⟩
    have e : bigL [.s x0, .l 3 1 n1 cs1, .b x2] = (x0.size + (n1 + bigL cs1)) := by simp [bigL, Cel.big]; try omega
    rw [e]
    have e1 := HM1.out
    (try simp only [bigL, Cel.big] at *)
    omega
  have g1 : ¬ r1 < 0 := by omega
  go_wp2
  go_ret
  refine ⟨t1.out.on, .inl ⟨_, rfl, ?_⟩⟩
  have e : bigL [.s x0, .l 3 1 n1 cs1, .b x2] = x0.size + (n1 + bigL cs1) := by simp [bigL, Cel.big]; try omega
  rw [e]
  have e1 := HM1.out
  (try simp only [bigL, Cel.big] at *)
  exact ⟨by omega, by first | trivial | rfl | omega⟩
theorem dSzIndexS (v : Value) (n : Nat) (cs : List Cel) (left : Int) (w : World) (h : In w v (.l 75 3 n cs)) (hs : Has (.l 75 3 n cs) (.l 75 3 tyIndex)) (h0 : 0 ≤ left) (h1 : left ≤ 2097152) :
    Calls Try.prog 20 #[v, .int .i64 left] w (Left w (n + bigL cs) left) := by
  obtain ⟨a, c, vs, rfl, h2, h3, hn, h4, h5⟩ := h.openL
  have SRC : Hid (n = 0 ∨ ∃ b o, a = some ⟨b, o, none⟩ ∧ ∀ j, j < n * 3 → w.cell? ⟨b, o + j, none⟩ = vs[j]?) := h4
  have HV : Hid (∀ j, j < n → InL w ((vs.drop (j * 3)).take 3) (row cs 3 j)) := fun j hj => rowIn h2 h3 h5 hj
  have HR : Hid (∀ j, j < n → HasL (row cs 3 j) tyIndex) := fun j hj => hs.rowL hj
  have L1 : Hid (vs.length = n * 3) := h2
  have L2 : Hid (cs.length = n * 3) := h3
  clear h h2 h3 h4 h5 hs
  by_cases hl : (n : Int) ≤ left
  rotate_left
  · have h2 : left - (n : Int) < 0 := by omega
    go_enter Try.func20, Try.ntmps20
    go_wp2
    go_ret
    exact ⟨Below.refl _ _, .inr ⟨rfl, by omega⟩⟩
  have h2 : ¬ (left - (n : Int) < 0) := by omega
  go_enter Try.func20, Try.ntmps20
  go_wp2
  go_loopw [1, 5] (fun l i wr => ∃ (j : Nat) (r : Int), j ≤ n ∧ l = .int .i64 r ∧ i = .int .i64 (j : Int) ∧ 0 ≤ r ∧ r = left - (n : Int) - (bigL (cs.take (j * 3)) : Int) ∧ Below w.heap.size w wr) (fun _ i _ => n - (intOf i).toNat)
  case atStart => exact ⟨0, left - n, Nat.zero_le _, rfl, rfl, by omega, by simp [bigL], Below.refl _ _⟩
  case round =>
    obtain ⟨j, r, hj, rfl, rfl, hr0, hr1, hb⟩ := hrel
    have HQ : Hid (r = left - (n : Int) - (bigL (cs.take (j * 3)) : Int)) := hr1
    have hr2 : r ≤ 2097152 := by omega
    clear hr1
    by_cases hlt : j < n
    · rcases SRC.out with h0' | ⟨p1, o1, rfl, g1⟩
      · omega
      have hk0 : (0 : Int) ≤ (j : Int) := by omega
      have hk1 : (j : Int) < (n : Int) := by omega
      have hle : j * 3 + 3 ≤ n * 3 := by omega
      have hA := HV.out j hlt
      have hH := HR.out j hlt
      have ce : ∀ i, i < 3 → wr.cell? ⟨p1, o1 + (j * 3 + i), none⟩ = ((vs.drop (j * 3)).take 3)[i]? := fun i hi => by
        have h5 := g1 (j * 3 + i) (by omega)
        rw [List.getElem?_take_of_lt hi, List.getElem?_drop, ← h5]
        have h6 : w.cell? ⟨p1, o1 + (j * 3 + i), none⟩ = some (vs[j * 3 + i]'(by have := L1.out; omega)) := by rw [h5, List.getElem?_eq_getElem (by have := L1.out; omega)]
        exact hb.cell (show p1 < w.heap.size from World.block_lt_of_cell? w _ h6)
      obtain ⟨rs, hrs⟩ : ∃ rs, row cs 3 j = rs := ⟨_, rfl⟩
      obtain ⟨ws, hws⟩ : ∃ ws, (vs.drop (j * 3)).take 3 = ws := ⟨_, rfl⟩
      have HRS : Hid (row cs 3 j = rs) := hrs
      rw [hrs] at hA hH
      rw [hws] at hA ce
      clear g1 hrs hws
      obtain ⟨c0, r0, rfl, T0, hH0⟩ := hH.cons
      obtain ⟨c1, r1, rfl, T1, hH1⟩ := hH0.cons
      obtain ⟨c2, r2, rfl, T2, hH2⟩ := hH1.cons
      obtain rfl := hH2.nil
      have HL0 : Hid (HasL [c0, c1, c2] tyIndex) := hH
      obtain ⟨v0, vr0, rfl, A0, hA0⟩ := hA.consE
      obtain ⟨v1, vr1, rfl, A1, hA1⟩ := hA0.consE
      obtain ⟨v2, vr2, rfl, A2, hA2⟩ := hA1.consE
      obtain rfl := hA2.nilE
      have HA0 : Hid (InL w [v0, v1, v2] [c0, c1, c2]) := hA
      have e0 : wr.cell? ⟨p1, o1 + j * 3, none⟩ = some v0 := ce 0 (by omega)
      have e1 : wr.cell? ⟨p1, o1 + j * 3 + 1, none⟩ = some v1 := ce 1 (by omega)
      have e2 : wr.cell? ⟨p1, o1 + j * 3 + 2, none⟩ = some v2 := ce 2 (by omega)
      clear ce hA hH hA0 hH0 T0 A0 hA1 hH1 T1 A1 hA2 hH2 T2 A2
      obtain ⟨m, hm⟩ : ∃ m, bigL [c0, c1, c2] = m := ⟨_, rfl⟩
      have HM : Hid (bigL (cs.take ((j + 1) * 3)) = bigL (cs.take (j * 3)) + m) := by show _ = _; rw [row_split, bigL_append, HRS.out, hm]
      have MON : Hid (bigL (cs.take ((j + 1) * 3)) ≤ bigL cs) := by
        show _ ≤ _
        have := bigL_append (cs.take ((j + 1) * 3)) (cs.drop ((j + 1) * 3))
        rw [List.take_append_drop] at this
        omega
      go_wp2_with fail
      refine (dSzIndex [v0, v1, v2] [c0, c1, c2] _ _ (HA0.out.on hb (Nat.le_refl _)) HL0.out hr0 hr2).mono ?_
      rintro e w2 ⟨hb2, hc⟩
      rw [hm] at hc
      have hb02 : Below w.heap.size w w2 := hb.trans (hb2.mono hb.size)
      clear hb2 hm e0 e1 e2
      rcases hc with ⟨r2, rfl, hq1, rfl⟩ | ⟨rfl, hq⟩
      · have g : ¬ r - (m : Int) < 0 := by omega
        go_wp2
        exact ⟨⟨j + 1, r - (m : Int), by omega, rfl, by go_num, by omega, by have h5 := HM.out; have h6 := HQ.out; omega, hb02⟩, by simp [intOf]; omega⟩
      · go_wp2
        go_ret
        exact ⟨hb02, .inr ⟨rfl, by have h5 := HM.out; have h6 := HQ.out; have h7 := MON.out; omega⟩⟩
    · obtain rfl : j = n := by omega
      have HE : Hid (cs.take (j * 3) = cs) := List.take_of_length_le (by have := L2.out; omega)
      go_wp2
      go_ret
      refine ⟨hb, .inl ⟨_, rfl, ?_⟩⟩
      have h6 := HQ.out
      rw [HE.out] at h6
      omega
theorem dSzSchema (vs : List Value) (cs : List Cel) (left : Int) (w : World) (h : InL w vs cs) (hs : HasL cs tySchema) (h0 : 0 ≤ left) (h1 : left ≤ 2097152) : Calls Try.prog 5 #[.agg vs.toArray, .int .i64 left] w (Left w (bigL cs) left) := by
  obtain ⟨c0, r0, rfl, T0, hH0⟩ := hs.cons
  obtain ⟨c1, r1, rfl, T1, hH1⟩ := hH0.cons
  obtain ⟨c2, r2, rfl, T2, hH2⟩ := hH1.cons
  obtain rfl := hH2.nil
  obtain ⟨v0, vr0, rfl, A0, hA0⟩ := h.consE
  obtain ⟨v1, vr1, rfl, A1, hA1⟩ := hA0.consE
  obtain ⟨v2, vr2, rfl, A2, hA2⟩ := hA1.consE
  obtain rfl := hA2.nilE
  obtain ⟨n0, cs0, rfl, -⟩ := T0.list
  have HT0 : Hid (Has (.l 65 3 n0 cs0) (.l 65 3 tyCol)) := T0
  have hA0' : Hid (In w v0 (.l 65 3 n0 cs0)) := A0
  obtain ⟨n1, cs1, rfl, -⟩ := T1.list
  have HT1 : Hid (Has (.l 3 1 n1 cs1) (.l 3 1 [.i])) := T1
  have hA1' : Hid (In w v1 (.l 3 1 n1 cs1)) := A1
  obtain ⟨n2, cs2, rfl, -⟩ := T2.list
  have HT2 : Hid (Has (.l 75 3 n2 cs2) (.l 75 3 tyIndex)) := T2
  have hA2' : Hid (In w v2 (.l 75 3 n2 cs2)) := A2
  clear hs h hA0 hH0 T0 A0 hA1 hH1 T1 A1 hA2 hH2 T2 A2
  obtain ⟨W, hW⟩ : ∃ W, w.alloc (.cells #[v0, v1, v2] 26) = W := ⟨_, rfl⟩
  have t0 : Hid (One w W #[v0, v1, v2] 26) := by rw [← hW]; exact one_new w _ _
  have HW : Hid _ := hW
  clear hW
  go_enter Try.func5, Try.ntmps5
  go_upto_region 1 with (fail)
  rw [HW.out]
  have ax0 : W.cell? ⟨w.heap.size, 0, none⟩ = some (v0) := t0.out.a.cell 0
  have ax1 : W.cell? ⟨w.heap.size, 1, none⟩ = some (v1) := t0.out.a.cell 1
  have ax2 : W.cell? ⟨w.heap.size, 2, none⟩ = some (v2) := t0.out.a.cell 2
  go_wp2_with fail
  refine (dSzColS v0 n0 cs0 _ _ (hA0'.out.on t0.out.on (Nat.le_refl _)) HT0.out (by omega) (by omega)).mono ?_
  rintro e w1 ⟨hb, hc⟩
  obtain ⟨m1, hm1⟩ : ∃ m, n0 + bigL cs0 = m := ⟨_, rfl⟩
  rw [hm1] at hc
  have HM1 : Hid (n0 + bigL cs0 = m1) := hm1
  clear hm1
  have t1 : Hid (One w w1 #[v0, v1, v2] 26) := t0.out.call hb
  clear hb ax0 ax1 ax2
  have ax0 : w1.cell? ⟨w.heap.size, 0, none⟩ = some (v0) := t1.out.a.cell 0
  have ax1 : w1.cell? ⟨w.heap.size, 1, none⟩ = some (v1) := t1.out.a.cell 1
  have ax2 : w1.cell? ⟨w.heap.size, 2, none⟩ = some (v2) := t1.out.a.cell 2
  rcases hc with ⟨r1, rfl, hr1, hq1⟩ | ⟨rfl, hr1⟩
  rotate_left
  · go_wp2
    go_ret
    refine ⟨t1.out.on, .inr ⟨rfl, ?_⟩⟩
    have e : bigL [.l 65 3 n0 cs0, .l 3 1 n1 cs1, .l 75 3 n2 cs2] = ((n0 + bigL cs0) + (n1 + bigL cs1) + (n2 + bigL cs2)) := by simp [bigL, Cel.big]; try omega
    rw [e]
    have e1 := HM1.out
    (try simp only [bigL, Cel.big] at *)
    omega
  have g1 : ¬ r1 < 0 := by omega
  go_wp2_with fail
  refine (dSzIntS v1 n1 cs1 _ _ (hA1'.out.on t1.out.on (Nat.le_refl _)) HT1.out (by omega) (by omega)).mono ?_
  rintro e w2 ⟨hb, hc⟩
  obtain ⟨m2, hm2⟩ : ∃ m, n1 + bigL cs1 = m := ⟨_, rfl⟩
  rw [hm2] at hc
  have HM2 : Hid (n1 + bigL cs1 = m2) := hm2
  clear hm2
  have t2 : Hid (One w w2 #[v0, v1, v2] 26) := t1.out.call hb
  clear hb ax0 ax1 ax2
  have ax0 : w2.cell? ⟨w.heap.size, 0, none⟩ = some (v0) := t2.out.a.cell 0
  have ax1 : w2.cell? ⟨w.heap.size, 1, none⟩ = some (v1) := t2.out.a.cell 1
  have ax2 : w2.cell? ⟨w.heap.size, 2, none⟩ = some (v2) := t2.out.a.cell 2
  rcases hc with ⟨r2, rfl, hr2, hq2⟩ | ⟨rfl, hr2⟩
  rotate_left
  · go_wp2
    go_ret
    refine ⟨t2.out.on, .inr ⟨rfl, ?_⟩⟩
    have e : bigL [.l 65 3 n0 cs0, .l 3 1 n1 cs1, .l 75 3 n2 cs2] = ((n0 + bigL cs0) + (n1 + bigL cs1) + (n2 + bigL cs2)) := by simp [bigL, Cel.big]; try omega
    rw [e]
    have e1 := HM1.out
    have e2 := HM2.out
    (try simp only [bigL, Cel.big] at *)
    omega
  have g2 : ¬ r2 < 0 := by omega
  go_wp2_with fail
  refine (dSzIndexS v2 n2 cs2 _ _ (hA2'.out.on t2.out.on (Nat.le_refl _)) HT2.out (by omega) (by omega)).mono ?_
  rintro e w3 ⟨hb, hc⟩
  obtain ⟨m3, hm3⟩ : ∃ m, n2 + bigL cs2 = m := ⟨_, rfl⟩
  rw [hm3] at hc
  have HM3 : Hid (n2 + bigL cs2 = m3) := hm3
  clear hm3
  have t3 : Hid (One w w3 #[v0, v1, v2] 26) := t2.out.call hb
  clear hb ax0 ax1 ax2
  have ax0 : w3.cell? ⟨w.heap.size, 0, none⟩ = some (v0) := t3.out.a.cell 0
  have ax1 : w3.cell? ⟨w.heap.size, 1, none⟩ = some (v1) := t3.out.a.cell 1
  have ax2 : w3.cell? ⟨w.heap.size, 2, none⟩ = some (v2) := t3.out.a.cell 2
  rcases hc with ⟨r3, rfl, hr3, hq3⟩ | ⟨rfl, hr3⟩
  rotate_left
  · go_wp2
    go_ret
    refine ⟨t3.out.on, .inr ⟨rfl, ?_⟩⟩
    have e : bigL [.l 65 3 n0 cs0, .l 3 1 n1 cs1, .l 75 3 n2 cs2] = ((n0 + bigL cs0) + (n1 + bigL cs1) + (n2 + bigL cs2)) := by simp [bigL, Cel.big]; try omega
    rw [e]
    have e1 := HM1.out
    have e2 := HM2.out
    have e3 := HM3.out
    (try simp only [bigL, Cel.big] at *)
    omega
  have g3 : ¬ r3 < 0 := by omega
  go_wp2
  go_ret
  refine ⟨t3.out.on, .inl ⟨_, rfl, ?_⟩⟩
  have e : bigL [.l 65 3 n0 cs0, .l 3 1 n1 cs1, .l 75 3 n2 cs2] = (n0 + bigL cs0) + (n1 + bigL cs1) + (n2 + bigL cs2) := by simp [bigL, Cel.big]; try omega
  rw [e]
  have e1 := HM1.out
  have e2 := HM2.out
  have e3 := HM3.out
  (try simp only [bigL, Cel.big] at *)
  omega
end
end Go.Proofs.Ytmgofehafjogfab
