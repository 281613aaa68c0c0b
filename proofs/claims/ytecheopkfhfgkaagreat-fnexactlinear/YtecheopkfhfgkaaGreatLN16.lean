/- Texts joined: ImplLn, DatS. -/
import Derived.Test.YtecheopkfhfgkaaGreatLN08
import Derived.Test.YtecheopkfhfgkaaGreatLN09
import Derived.Test.YtecheopkfhfgkaaGreatLN10
import Derived.Test.YtecheopkfhfgkaaGreatLN15
import Derived.Test.YtecheopkfhfgkaaGreatLN05
import Derived.FnLit
import Derived.Laws.EntriesVeiled
import Derived.Deep.Cut
import Derived.Deep.RegionHeld3
import Derived.Test.YtecheopkfhfgkaaGreatLN02
import Derived.Handy
set_option maxHeartbeats 16000000
set_option maxRecDepth 100000
namespace Go.Proofs.YtecheopkfhfgkaaGreat
section
open Go.ChangeShapes Go.WideShapes Go.ChangeAt Go.RowKit Go.Joins
abbrev GoF (g h : Nat) : Value := .func (.func 20) #[] #[.pointer (some ⟨g, 0, none⟩), .pointer (some ⟨h, 0, none⟩)]
theorem enters_go : Enters 20 := by
  intro args w
  have hf := Tryz.func20
  go_simp
theorem rowsG_wf {xs : List Int} {st : Int} (h : OkRows xs st) : ∀ x ∈ xs, (Lit.int .i64 x).wf = true := by
  intro x hx
  obtain ⟨h4, -, -, hg⟩ := h
  by_cases h0 : x = 0
  · subst h0; decide
  · have hm : posK xs 4 x ≠ [] := by
      obtain ⟨i, hi, rfl⟩ := List.getElem_of_mem hx
      have : ((i : Nat) : Int) ∈ posK xs 4 xs[i] := List.mem_map.2 ⟨i, List.mem_filter.2 ⟨List.mem_range.2 (by omega), by simp [List.getD, hi]⟩, rfl⟩
      exact List.ne_nil_of_mem this
    have := (hg x h0 hm).1
    exact WalkArith.wf_i64 (by omega)
theorem twoG_of {w : World} {b : Nat} {x0 x1 : Value} {T : TypeId} (h : Box w b #[x0, x1] T) : w.cell? ⟨b, 0, none⟩ = some x0 ∧ w.cell? ⟨b, 1, none⟩ = some x1 := ⟨h.cell 0, h.cell 1⟩
theorem oneG_of {w : World} {b : Nat} {x0 : Value} {T : TypeId} (h : Box w b #[x0] T) : w.cell? ⟨b, 0, none⟩ = some x0 := h.cell 0
theorem intsG_own {w : World} {base g c : Nat} {xs : List Int} {e : TypeId} (h : w.ownsRow base e 1 (.slice (some ⟨g, 0, none⟩) 4 c) 4 (xs.map I)) : IntAt w (some ⟨g, 0, none⟩) 4 xs := by
  obtain ⟨a, c', e1, h1⟩ := own_at h (by omega)
  cases e1
  exact h1
theorem ownsG_four {w : World} {base : Nat} {e : TypeId} {a : Option Addr} {c : Nat} {xs : List Value} (h : w.ownsRow base e 1 (.slice a 4 c) 4 xs) : ∃ g, a = some ⟨g, 0, none⟩ := by
  rcases owns_forms h with ⟨_, h0⟩ | ⟨g, cap, e⟩
  · cases h0
  · cases e; exact ⟨g, rfl⟩
structure GoP (g h p o c : Nat) (xs : List Int) (st : Int) (la : Option Addr) (lc n : Nat) (Q : List CaQ) (w : World) : Prop where
  len : Q.length = n
  cap : n ≤ lc
  cas : CasP g w la Q
  rows : IntAt w (some ⟨p, o, none⟩) 4 xs
  ne : p ≠ g
  room : 4 ≤ c
  ok : OkRows xs st
  tal : Tally w g 0
  clo : Box w h #[GoF g h] 63
  hg : h ≠ g
def OnSays (g n : Nat) (Q : List CaQ) (xs : List Int) (st : Int) (w : World) (e : Ending) (w' : World) : Prop :=
  e = .returned (.tuple #[]) ∧ ∃ b : Bool, Tally w' g (bif b then 1 else 0) ∧ (b = true ↔ GoL n (Q.map Prod.fst) xs st) ∧ But g w w'
theorem impl_goOn (g h : Nat) (n : Nat) : n ≤ 7 → ∀ (p o c : Nat) (xs : List Int) (st : Int) (la : Option Addr) (lc : Nat) (Q : List CaQ) (w : World), GoP g h p o c xs st la lc n Q w →
    Calls Tryz.prog 20 #[.agg #[.slice (some ⟨p, o, none⟩) 4 c, .int .i64 st], .slice la n lc, .pointer (some ⟨g, 0, none⟩), .pointer (some ⟨h, 0, none⟩)] w (OnSays g n Q xs st w) := by
  induction n with
  | zero =>
    intro hn p o c xs st la lc Q w H
    obtain ⟨P, hP⟩ : ∃ P, OnSays g 0 Q xs st w = P := ⟨_, rfl⟩
    have HP : Hid (∀ e w', OnSays g 0 Q xs st w e w' → P e w') := fun e w' h => by rw [← hP]; exact h
    have HT : Hid (GoL 0 (Q.map Prod.fst) xs st) := trivial
    rw [hP]
    obtain ⟨W, hW⟩ : ∃ W, w.alloc (.cells #[.slice (some ⟨p, o, none⟩) 4 c, .int .i64 st] 29) = W := ⟨_, rfl⟩
    have hb0 : Below w.heap.size w W := by rw [← hW]; exact (Below.refl _ w).alloc (Nat.le_refl _) _
    have lg : g < w.heap.size := Box.lt H.tal
    have HBW : Hid (But g w W) := .of hb0 (Nat.le_of_lt lg)
    have HTA : Hid (Tally W g 0) := H.tal.below hb0 (Nat.le_refl _)
    have HW : Hid (w.alloc (.cells #[.slice (some ⟨p, o, none⟩) 4 c, .int .i64 st] 29) = W) := hW
    clear H hP hb0 hW
    show Calls Tryz.prog 20 #[.agg #[.slice (some ⟨p, o, none⟩) 4 c, .int .i64 st], .slice la 0 lc, .pointer (some ⟨g, 0, none⟩), .pointer (some ⟨h, 0, none⟩)] w P
    go_enter Tryz.func20, Tryz.ntmps20
    go_wp2_with fail
    rw [HW.out]
    refine (tally_add g W HTA.out).mono ?_
    rintro e w2 ⟨rfl, ht, hb⟩
    have HT2 : Hid (Tally w2 g 1) := ht
    have HB2 : Hid (But g w w2) := HBW.out.trans hb
    clear ht hb
    go_wp2
    go_loopw [15] (fun i wr => i = .int .i64 0 ∧ wr = w2) (fun _ _ => 0)
    case atStart => exact ⟨rfl, rfl⟩
    case round =>
      obtain ⟨rfl, hwr⟩ := hrel
      obtain rfl : w2 = wr := hwr.symm
      go_wp2
      first | go_end0 | go_ret
      exact HP.out _ _ ⟨rfl, true, HT2.out, by simp [HT.out], HB2.out⟩
  | succ n ih =>
    intro hn p o c xs st la lc Q w H
    have IH : Hid (∀ (p o c : Nat) (xs : List Int) (st : Int) (la : Option Addr) (lc : Nat) (Q : List CaQ) (w : World), GoP g h p o c xs st la lc n Q w → Calls Tryz.prog 20 #[.agg #[.slice (some ⟨p, o, none⟩) 4 c, .int .i64 st], .slice la n lc, .pointer (some ⟨g, 0, none⟩), .pointer (some ⟨h, 0, none⟩)] w (OnSays g n Q xs st w)) := fun p o c xs st la lc Q w H => ih (by omega) p o c xs st la lc Q w H
    obtain ⟨P, hP⟩ : ∃ P, OnSays g (n + 1) Q xs st w = P := ⟨_, rfl⟩
    obtain ⟨L, hL⟩ : ∃ L, Q.map Prod.fst = L := ⟨_, rfl⟩
    have HL : Hid (Q.map Prod.fst = L) := hL
    have HLL : Hid (L.length = n + 1) := by show _ = _; rw [← hL, List.length_map]; exact H.len
    obtain ⟨G, hG⟩ : ∃ G : Prop, GoL (n + 1) L xs st = G := ⟨_, rfl⟩
    have HG : Hid (G ↔ ∃ k, k < n + 1 ∧ ByL n L xs st k) := by show _ ↔ _; rw [← hG, GoL.by_, HLL.out]
    have HP : Hid (∀ e w' b, e = .returned (.tuple #[]) → Tally w' g (bif b then 1 else 0) → (b = true ↔ G) → But g w w' → P e w') := fun e w' b h1 h2 h3 h4 => by rw [← hP]; exact ⟨h1, b, h2, by rw [hL, hG]; exact h3, h4⟩
    rw [hP]
    obtain ⟨pb, po, hla, hpbg, -, -⟩ := H.cas.one (k := 0) (p := Q[0]'(by have := H.len; omega)) (List.getElem?_eq_getElem _)
    subst hla
    have lg : g < w.heap.size := Box.lt H.tal
    obtain ⟨sz, hsz⟩ : ∃ sz, w.heap.size = sz := ⟨_, rfl⟩
    obtain ⟨W, hW⟩ : ∃ W, w.alloc (.cells #[.slice (some ⟨p, o, none⟩) 4 c, .int .i64 st] 29) = W := ⟨_, rfl⟩
    have hb0 : Below w.heap.size w W := by rw [← hW]; exact (Below.refl _ w).alloc (Nat.le_refl _) _
    have HBW : Hid (But g w W) := .of hb0 (Nat.le_of_lt lg)
    have BR : Hid (Box W sz #[.slice (some ⟨p, o, none⟩) 4 c, .int .i64 st] 29) := by rw [← hW, ← hsz]; exact box_of w _ _
    have HT0 : Hid (Tally W g 0) := H.tal.below hb0 (Nat.le_refl _)
    have LS : sz ≠ g := by omega
    have HCY : Hid (∀ y, But g W y → CasP g y (some ⟨pb, po, none⟩) Q) := fun y hy => H.cas.on (HBW.out.trans hy)
    have HIN : Hid (∀ y, But g W y → IntAt y (some ⟨p, o, none⟩) 4 xs) := fun y hy => (HBW.out.trans hy).ints H.rows H.ne
    have HBR : Hid (∀ y, But g W y → Box y sz #[.slice (some ⟨p, o, none⟩) 4 c, .int .i64 st] 29) := fun y hy => hy.box BR.out LS
    have HBH : Hid (∀ y, But g W y → Box y h #[GoF g h] 63) := fun y hy => (HBW.out.trans hy).box H.clo H.hg
    have HHG : Hid (h ≠ g) := H.hg
    have HOK : Hid (OkRows xs st) := H.ok
    have hroom := H.room
    have hcap := H.cap
    have HLEN : Hid (Q.length = n + 1) := H.len
    have HW : Hid (w.alloc (.cells #[.slice (some ⟨p, o, none⟩) 4 c, .int .i64 st] 29) = W) := hW
    have HSZ : Hid (w.heap.size = sz) := hsz
    obtain ⟨m, hm⟩ : ∃ m, n + 1 = m := ⟨_, rfl⟩
    have HM : Hid (n + 1 = m) := hm
    have hlz : ((m : Int) == 0) = false := by simp; omega
    clear H hP hG hL hb0 hW ih
    rw [hm]
    rw [hm] at hcap HLEN HG HLL hn
    clear hm
    go_enter Tryz.func20, Tryz.ntmps20
    go_wp2
    rw [HW.out]
    (try rw [HSZ.out])
    clear hsz HW
    go_loopw [15] (fun q wr => ∃ (k : Nat) (b : Bool), k ≤ m ∧ q = .int .i64 (k : Int) ∧ Tally wr g (bif b then 1 else 0) ∧ (b = true ↔ ∃ j, j < k ∧ ByL n L xs st j) ∧ But g W wr) (fun q _ => m - (intOf q).toNat)
    case atStart => exact ⟨0, false, Nat.zero_le _, rfl, HT0.out, by simp, But.refl _ _⟩
    case round =>
      obtain ⟨k, b, hk, rfl, ht, hby, hb⟩ := hrel
      have HT : Hid (Tally wr g (bif b then 1 else 0)) := ht
      have HBY : Hid (b = true ↔ ∃ j, j < k ∧ ByL n L xs st j) := hby
      have HB : Hid (But g W wr) := hb
      clear ht hby hb
      by_cases hlt : k < m
      case neg =>
        obtain rfl : k = m := by omega
        have HYES : Hid (b = true ↔ G) := HBY.out.trans HG.out.symm
        go_wp2
        first | go_end0 | go_ret
        exact HP.out _ _ b rfl HT.out HYES.out (HBW.out.trans HB.out)
      have hk0 : (0 : Int) ≤ (k : Int) := by omega
      have hk1 : (k : Int) < (m : Int) := by omega
      obtain ⟨pk, hpk⟩ : ∃ pk, Q[k]? = some pk := ⟨_, List.getElem?_eq_getElem (by have := HLEN.out; omega)⟩
      obtain ⟨⟨d, rl⟩, ra, rn, rc⟩ := pk
      obtain ⟨x0, x1, x2, x3, x4, x5, x6, x7⟩ := d
      have HPK : Hid (Q[k]? = some (((⟨x0, x1, x2, x3, x4, x5, x6, x7⟩ : CaD), rl), (ra, rn, rc))) := hpk
      obtain ⟨pb', po', hpe, -, ⟨e0, e1, e2, e3, e4, e5, e6, e7, e8⟩, hI⟩ := (HCY.out _ HB.out).one hpk
      cases hpe
      dsimp only at e0 e1 e2 e3 e4 e5 e6 e7 e8 hI
      have HRES : Hid (∀ y, But g wr y → IntAt y ra rn rl) := hI
      have HTC : Hid (tcF L k = ⟨x0, x1, x2, x3, x4, x5, x6, x7⟩ ∧ tcR L k = rl) := by
        rw [← HL.out]
        unfold tcF tcR tcN
        rw [List.getD_eq_getElem?_getD, List.getElem?_map, hpk]
        exact ⟨rfl, rfl⟩
      obtain ⟨q, hq⟩ : ∃ q, wr.heap.size = q := ⟨_, rfl⟩
      obtain ⟨X, hX⟩ : ∃ X, wr.alloc (.cells #[.int .i64 x0, .int .i64 x1, .int .i64 x2, .int .i64 x3, .int .i64 x4, .int .i64 x5, .int .i64 x6, .int .i64 x7, .slice ra rn rc] 52) = X := ⟨_, rfl⟩
      have hbx : Below wr.heap.size wr X := by rw [← hX]; exact (Below.refl _ wr).alloc (Nat.le_refl _) _
      have lgr : g < wr.heap.size := Box.lt HT.out
      have BC : Hid (Box X q #[.int .i64 x0, .int .i64 x1, .int .i64 x2, .int .i64 x3, .int .i64 x4, .int .i64 x5, .int .i64 x6, .int .i64 x7, .slice ra rn rc] 52) := by rw [← hX, ← hq]; exact box_of wr _ _
      have HBX' : Hid (But g wr X) := .of hbx (Nat.le_of_lt lgr)
      have HBX : Hid (But g W X) := HB.out.trans HBX'.out
      have HTX : Hid (Tally X g (bif b then 1 else 0)) := HT.out.below hbx (Nat.le_refl _)
      have LQ : q ≠ g := by omega
      have HX : Hid (wr.alloc (.cells #[.int .i64 x0, .int .i64 x1, .int .i64 x2, .int .i64 x3, .int .i64 x4, .int .i64 x5, .int .i64 x6, .int .i64 x7, .slice ra rn rc] 52) = X) := hX
      have HQ : Hid (wr.heap.size = q) := hq
      clear hpk hI hbx hX
      go_upto_region 6 with (fail)
      rw [HX.out]
      (try rw [HQ.out])
      clear HX HQ hq e0 e1 e2 e3 e4 e5 e6 e7 e8 lgr
      have hk2 : (k : Int) ≤ (lc : Int) := by omega
      obtain ⟨k1, hkk⟩ : ∃ k1, k + 1 = k1 := ⟨_, rfl⟩
      have hw1 : (k : Int) + 1 = (k1 : Int) := by omega
      have HKK : Hid (k + 1 = k1) := hkk
      obtain ⟨a2, ha2⟩ : ∃ a2 : Addr, (if lc = k1 then (⟨pb, po, none⟩ : Addr) else ⟨pb, po + k1 * 9, none⟩) = a2 := ⟨_, rfl⟩
      have hsl : ∀ w : World, (Instr.slice 31 (.slice (some ⟨pb, po, none⟩) m lc) (some (.int .i64 (k1 : Int))) none none).run Tryz.prog w = .ok (.slice (some a2) (m - k1) (lc - k1)) w := fun w => by
        have hs := Tryz.sizeOf52 w
        rw [run_slice_l w 31 (some ⟨pb, po, none⟩) m lc Tryz.underlying31 .i64 (k1 : Int) (by omega) (by omega)]
        rw [show Tryz.prog.elem 31 = 52 from rfl, hs]
        simp only [Result.andThen, sliced, Int.toNat_natCast]
        rw [← ha2]
        split
        · simp
        · simp [Addr.add]; omega
      have hk3 : (k1 : Int) ≤ 100 := by omega
      have hk4 : (0 : Int) ≤ (k1 : Int) := by omega
      have hk5 : IntKind.i64.wrap (k1 : Int) = (k1 : Int) := by rw [IntKind.wrap_i64]; omega
      have hk6 : wrap64 (k1 : Int) = (k1 : Int) := by unfold wrap64; omega
      clear hkk
      obtain ⟨Y, hY⟩ : ∃ Y, (X.alloc (.cells #[.slice (some ⟨pb, po, none⟩) k lc, .slice (some a2) (m - k1) (lc - k1)] 31)).drew = Y := ⟨_, rfl⟩
      have lgx : g < X.heap.size := Box.lt HTX.out
      have hby : Below X.heap.size X Y := by rw [← hY]; exact ((Below.refl _ X).alloc (Nat.le_refl _) _).drew
      have HYQ : Hid (Y.cell? ⟨X.heap.size, 0, none⟩ = some (.slice (some ⟨pb, po, none⟩) k lc) ∧ Y.cell? ⟨X.heap.size, 1, none⟩ = some (.slice (some a2) (m - k1) (lc - k1))) := by
        have hx := box_of X #[.slice (some ⟨pb, po, none⟩) k lc, .slice (some a2) (m - k1) (lc - k1)] 31
        rw [← hY]
        exact twoG_of hx.drew
      have HBXY : Hid (But g X Y) := .of hby (Nat.le_of_lt lgx)
      have HBY0 : Hid (But g W Y) := HBX.out.trans HBXY.out
      have HTY : Hid (Tally Y g (bif b then 1 else 0)) := HTX.out.below hby (Nat.le_refl _)
      have BCY : Hid (Box Y q #[.int .i64 x0, .int .i64 x1, .int .i64 x2, .int .i64 x3, .int .i64 x4, .int .i64 x5, .int .i64 x6, .int .i64 x7, .slice ra rn rc] 52) := BC.out.below hby BC.out.lt
      have LYS : Hid (X.heap.size ≤ Y.heap.size) := hby.size
      have HPA : Hid (_ ∧ _ ∧ _ ∧ _) := (HCY.out _ HBY0.out).parts (a2 := a2) HLEN.out hlt hcap (by rw [HKK.out]; exact ha2)
      have HERL : Hid ((Q.eraseIdx k).length = n) := by
        show _ = _
        rw [List.length_eraseIdx_of_lt (by rw [HLEN.out]; exact hlt), HLEN.out, ← HM.out]
        simp
      have HERM : Hid ((Q.eraseIdx k).map Prod.fst = L.eraseIdx k) := by
        show _ = _
        rw [← HL.out, List.eraseIdx_eq_take_drop_succ, List.eraseIdx_eq_take_drop_succ, List.map_append, List.map_take, List.map_drop]
      have HNK : Hid (k + (m - k1) = n) := by have h1 := HM.out; have h2 := HKK.out; show _ = _; omega
      have HY : Hid ((X.alloc (.cells #[.slice (some ⟨pb, po, none⟩) k lc, .slice (some a2) (m - k1) (lc - k1)] 31)).drew = Y) := hY
      have HAT : Hid (∀ j, j < n → tcF ((Q.eraseIdx k).map Prod.fst) j = tcF (L.eraseIdx k) j) := fun j _ => by rw [HERM.out]
      clear hY hby lgx ha2
      go_region_held3 (fun _ => True) (exact trivial)
        (first
         | (go_at_call 22
            rw [HY.out]
            refine (concat_two X.heap.size 2 ⟨pb, po, none⟩ a2 k lc (m - k1) (lc - k1) (qAll (Q.take k)) (qAll (Q.drop (k + 1))) Y HYQ.out.1 HYQ.out.2 (by have := HNK.out; omega) HPA.out.1 (by rw [← HKK.out]; exact HPA.out.2.1) HPA.out.2.2.1 HPA.out.2.2.2 (qAll_one _) (qAll_one _)).mono ?_
            rintro e w2 ⟨v, rfl, ho, hb2⟩
            have HB2Y : Hid (But g Y w2) := .of hb2 (Nat.le_of_lt (Box.lt HTY.out))
            have HB2 : Hid (But g W w2) := HBY0.out.trans HB2Y.out
            obtain ⟨oa, oc, rfl, hoc, hcas⟩ := casP_own (g := g) (Q := Q.eraseIdx k) (by rw [HERL.out, ← HNK.out, ← qAll_erase]; exact ho) (Box.lt HTY.out) (fun pp hpp => by
              rcases HCY.out _ HB2.out with h0 | ⟨_, _, _, _, _, h4⟩
              · have := HLEN.out; omega
              · exact h4 pp (List.mem_of_mem_eraseIdx hpp))
            rw [HERL.out] at hoc
            have HOV : Hid (Value.slice oa (Q.eraseIdx k).length oc = .slice oa n oc) := by show _ = _; rw [HERL.out]
            have HCO : Hid (CasP g w2 oa (Q.eraseIdx k)) := hcas
            have HT2 : Hid (Tally w2 g (bif b then 1 else 0)) := HTY.out.below hb2 (Nat.le_refl _)
            have BC2 : Hid (Box w2 q #[.int .i64 x0, .int .i64 x1, .int .i64 x2, .int .i64 x3, .int .i64 x4, .int .i64 x5, .int .i64 x6, .int .i64 x7, .slice ra rn rc] 52) := BCY.out.below hb2 BCY.out.lt
            rw [HOV.out]
            clear ho hb2 hcas))
      have NXT : Hid ((¬ ByL n L xs st k) → ¬ (∃ j, j < k ∧ ByL n L xs st j) → ¬ ∃ j, j < k1 ∧ ByL n L xs st j) := fun h1 h2 ⟨j, hj, h3⟩ => by
        by_cases hjk : j = k
        · subst hjk; exact h1 h3
        · exact h2 ⟨j, by have := HKK.out; omega, h3⟩
      have MOR : Hid ((∃ j, j < k ∧ ByL n L xs st j) → ∃ j, j < k1 ∧ ByL n L xs st j) := fun ⟨j, hj, h⟩ => ⟨j, by have := HKK.out; omega, h⟩
      have hk1m : k1 ≤ m := by have := HKK.out; omega
      have hmk : m - k1 < m - k := by have := HKK.out; omega
      rcases b with _ | _
      case true =>
        have HYE : Hid (∃ j, j < k1 ∧ ByL n L xs st j) := MOR.out (HBY.out.1 rfl)
        go_wp2_with fail
        refine (tally_some g 1 w2 HT2.out).mono ?_
        rintro e w3 ⟨rfl, ht3, hb3⟩
        have HT3 : Hid (Tally w3 g 1) := ht3
        have HB3 : Hid (But g W w3) := HB2.out.trans hb3
        rw [show decide ((1 : Int) > 0) = true from rfl]
        clear ht3 hb3
        go_wp2
        exact ⟨⟨k1, true, hk1m, by first | rfl | go_num, HT3.out, by simp [HYE.out], HB3.out⟩, by simp [intOf]; omega⟩
      have HNY : Hid (¬ ∃ j, j < k ∧ ByL n L xs st j) := fun h => by have := HBY.out.2 h; cases this
      go_wp2_with fail
      refine (tally_some g 0 w2 HT2.out).mono ?_
      rintro e w3 ⟨rfl, ht3, hb3⟩
      rw [show decide ((0 : Int) > 0) = false from rfl]
      have HT3 : Hid (Tally w3 g 0) := ht3
      have HB23 : Hid (But g w2 w3) := hb3
      have HB3 : Hid (But g W w3) := HB2.out.trans hb3
      have BC3 : Hid (Box w3 q #[.int .i64 x0, .int .i64 x1, .int .i64 x2, .int .i64 x3, .int .i64 x4, .int .i64 x5, .int .i64 x6, .int .i64 x7, .slice ra rn rc] 52) := hb3.box BC2.out LQ
      have HC3 : Hid (CasP g w3 oa (Q.eraseIdx k)) := HCO.out.on hb3
      clear ht3 hb3
      obtain ⟨u0, u1, u2, u3, u4, u5, u6, u7, u8, _, _⟩ := nineA_of BC3.out
      go_wp2_with fail
      refine (impl_mayBe ⟨x0, x1, x2, x3, x4, x5, x6, x7⟩ (.slice ra rn rc) oa n oc (tcF (L.eraseIdx k)) w3 (by
        have h1 := HC3.out.cas (by have := HERL.out; have := HM.out; omega)
        rw [HERL.out, HERM.out] at h1
        exact h1)).mono ?_
      rintro e w4 ⟨b4, ⟨rfl, hm4⟩, hb4⟩
      have HM4 : Hid (b4 = true ↔ ∀ j, j < (L.eraseIdx k).length → AheadM (tcF (L.eraseIdx k) j) (tcF L k) = false) := by
        show _ ↔ _
        rw [HTC.out.1, ← HERM.out, List.length_map, HERL.out, HERM.out]
        exact hm4
      have HT4 : Hid (Tally w4 g 0) := HT3.out.below hb4 (Nat.le_refl _)
      have HB34 : Hid (But g w3 w4) := .of hb4 (Nat.le_of_lt (Box.lt HT3.out))
      have HB4 : Hid (But g W w4) := HB3.out.trans HB34.out
      have BC4 : Hid (Box w4 q #[.int .i64 x0, .int .i64 x1, .int .i64 x2, .int .i64 x3, .int .i64 x4, .int .i64 x5, .int .i64 x6, .int .i64 x7, .slice ra rn rc] 52) := BC3.out.below hb4 BC3.out.lt
      have HC4 : Hid (CasP g w4 oa (Q.eraseIdx k)) := HC3.out.on HB34.out
      clear hm4 hb4 u0 u1 u2 u3 u4 u5 u6 u7 u8
      rcases b4 with _ | _
      · have HNB : Hid (¬ ∃ j, j < k1 ∧ ByL n L xs st j) := NXT.out (fun h => by have := HM4.out.2 h.1; cases this) HNY.out
        go_wp2
        exact ⟨⟨k1, false, hk1m, by first | rfl | go_num, HT4.out, by simp [HNB.out], HB4.out⟩, by simp [intOf]; omega⟩
      obtain ⟨u0, u1, u2, u3, u4, u5, u6, u7, u8, _, _⟩ := nineA_of BC4.out
      obtain ⟨r0, r1⟩ := twoG_of (HBR.out _ HB4.out)
      go_wp2_with fail
      refine (implAllowed_room p o 4 c rn rc ra st x1 x2 x3 x7 xs rl w4 hroom (HIN.out _ HB4.out) (HRES.out _ (HBX'.out.trans (HBXY.out.trans (HB2Y.out.trans (HB23.out.trans HB34.out))))) (rowsG_wf HOK.out)).mono ?_
      rintro e w5 ⟨⟨b5, rfl, ha5⟩, hb5⟩
      have HA5 : Hid (b5 = true ↔ AllowM xs st (tcF L k).kd (tcF L k).k (tcF L k).v (tcF L k).cd (tcR L k)) := by
        show _ ↔ _
        rw [HTC.out.1, HTC.out.2]
        exact ha5
      have HT5 : Hid (Tally w5 g 0) := HT4.out.below hb5 (Nat.le_refl _)
      have HB45 : Hid (But g w4 w5) := .of hb5 (Nat.le_of_lt (Box.lt HT4.out))
      have HB5 : Hid (But g W w5) := HB4.out.trans HB45.out
      have BC5 : Hid (Box w5 q #[.int .i64 x0, .int .i64 x1, .int .i64 x2, .int .i64 x3, .int .i64 x4, .int .i64 x5, .int .i64 x6, .int .i64 x7, .slice ra rn rc] 52) := BC4.out.below hb5 BC4.out.lt
      have HC5 : Hid (CasP g w5 oa (Q.eraseIdx k)) := HC4.out.on HB45.out
      clear ha5 hb5 u0 u1 u2 u3 u4 u5 u6 u7 u8 r0 r1
      rcases b5 with _ | _
      · have HNB : Hid (¬ ∃ j, j < k1 ∧ ByL n L xs st j) := NXT.out (fun h => by have := HA5.out.2 h.2.1; cases this) HNY.out
        go_wp2
        exact ⟨⟨k1, false, hk1m, by first | rfl | go_num, HT5.out, by simp [HNB.out], HB5.out⟩, by simp [intOf]; omega⟩
      obtain ⟨Z, hZ⟩ : ∃ Z, w5.drew = Z := ⟨_, rfl⟩
      have hbz : Below w5.heap.size w5 Z := by rw [← hZ]; exact (Below.refl _ w5).drew
      have HB5Z : Hid (But g w5 Z) := .of hbz (Nat.le_of_lt (Box.lt HT5.out))
      have HBZ : Hid (But g W Z) := HB5.out.trans HB5Z.out
      have HTZ : Hid (Tally Z g 0) := HT5.out.below hbz (Nat.le_refl _)
      have BCZ : Hid (Box Z q #[.int .i64 x0, .int .i64 x1, .int .i64 x2, .int .i64 x3, .int .i64 x4, .int .i64 x5, .int .i64 x6, .int .i64 x7, .slice ra rn rc] 52) := BC5.out.below hbz BC5.out.lt
      have HZ : Hid (w5.drew = Z) := hZ
      have KEP : Hid (∀ y, But g W y → Box y q #[.int .i64 x0, .int .i64 x1, .int .i64 x2, .int .i64 x3, .int .i64 x4, .int .i64 x5, .int .i64 x6, .int .i64 x7, .slice ra rn rc] 52 → (y.cell? ⟨h, 0, none⟩ = some (GoF g h) ∧ y.cell? ⟨sz, 0, none⟩ = some (.slice (some ⟨p, o, none⟩) 4 c) ∧ y.cell? ⟨sz, 1, none⟩ = some (.int .i64 st) ∧ y.cell? ⟨q, 1, none⟩ = some (.int .i64 x1) ∧ y.cell? ⟨q, 2, none⟩ = some (.int .i64 x2) ∧ y.cell? ⟨q, 3, none⟩ = some (.int .i64 x3) ∧ y.cell? ⟨q, 7, none⟩ = some (.int .i64 x7) ∧ y.cell? ⟨q, 8, none⟩ = some (.slice ra rn rc))) := fun y hy hbx => by
        obtain ⟨r0, r1⟩ := twoG_of (HBR.out _ hy)
        obtain ⟨u0, u1, u2, u3, u4, u5, u6, u7, u8, _, _⟩ := nineA_of hbx
        exact ⟨oneG_of (HBH.out _ hy), r0, r1, u1, u2, u3, u7, u8⟩
      have K0 : Hid (w5.drew.cell? ⟨h, 0, none⟩ = some (GoF g h) ∧ w5.drew.cell? ⟨sz, 0, none⟩ = some (.slice (some ⟨p, o, none⟩) 4 c) ∧ w5.drew.cell? ⟨sz, 1, none⟩ = some (.int .i64 st) ∧ w5.drew.cell? ⟨q, 1, none⟩ = some (.int .i64 x1) ∧ w5.drew.cell? ⟨q, 2, none⟩ = some (.int .i64 x2) ∧ w5.drew.cell? ⟨q, 3, none⟩ = some (.int .i64 x3) ∧ w5.drew.cell? ⟨q, 7, none⟩ = some (.int .i64 x7) ∧ w5.drew.cell? ⟨q, 8, none⟩ = some (.slice ra rn rc)) := by rw [hZ]; exact KEP.out _ HBZ.out BCZ.out
      have hE : ∀ (args : Array Value) (w : World), (callFunc 20 args).run Tryz.prog w = .ok (.enter 20 args) w := enters_go
      clear hZ hbz
      go_wp2_with fail
      go_region_held3 (fun w' => w'.cell? ⟨h, 0, none⟩ = some (GoF g h) ∧ w'.cell? ⟨sz, 0, none⟩ = some (.slice (some ⟨p, o, none⟩) 4 c) ∧ w'.cell? ⟨sz, 1, none⟩ = some (.int .i64 st) ∧ w'.cell? ⟨q, 1, none⟩ = some (.int .i64 x1) ∧ w'.cell? ⟨q, 2, none⟩ = some (.int .i64 x2) ∧ w'.cell? ⟨q, 3, none⟩ = some (.int .i64 x3) ∧ w'.cell? ⟨q, 7, none⟩ = some (.int .i64 x7) ∧ w'.cell? ⟨q, 8, none⟩ = some (.slice ra rn rc))
        (first | (with_reducible exact K2.out) | (with_reducible exact K1.out) | (with_reducible exact K0.out) | go_keep)
        (first
         | (go_at_call 26
            rw [HZ.out]
            refine (implAfter_room ra p o 4 c rn rc st x1 x2 x3 x7 xs rl Z hroom (HIN.out _ HBZ.out) (HRES.out _ (HBX'.out.trans (HBXY.out.trans (HB2Y.out.trans (HB23.out.trans (HB34.out.trans (HB45.out.trans HB5Z.out))))))) (rowsG_wf HOK.out)).mono ?_
            rintro e w6 ⟨⟨zs, s6, a6, c6, rfl, hAf, hown6⟩, hb6⟩
            obtain ⟨g6, rfl⟩ := ownsG_four hown6
            have HAF : Hid (AfterM xs st x1 x2 x3 x7 rl zs s6) := hAf
            have hg6 : Z.heap.size ≤ g6 := (hown6.lt g6 rfl).1
            have HBZ6 : Hid (But g Z w6) := .of hb6 (Nat.le_of_lt (Box.lt HTZ.out))
            have HB6 : Hid (But g W w6) := HBZ.out.trans HBZ6.out
            have HT6 : Hid (Tally w6 g 0) := HTZ.out.below hb6 (Nat.le_refl _)
            have BC6 : Hid (Box w6 q #[.int .i64 x0, .int .i64 x1, .int .i64 x2, .int .i64 x3, .int .i64 x4, .int .i64 x5, .int .i64 x6, .int .i64 x7, .slice ra rn rc] 52) := BCZ.out.below hb6 BCZ.out.lt
            have GP : Hid (GoP g h g6 0 c6 zs s6 oa oc n (Q.eraseIdx k) w6) := ⟨HERL.out, hoc, HC5.out.on (HB5Z.out.trans HBZ6.out), intsG_own hown6, by have := Box.lt HTZ.out; omega, (own_room hown6).1, after_rows HOK.out hAf, HT6.out, HBH.out _ HB6.out, HHG.out⟩
            have K1 : Hid (w6.cell? ⟨h, 0, none⟩ = some (GoF g h) ∧ w6.cell? ⟨sz, 0, none⟩ = some (.slice (some ⟨p, o, none⟩) 4 c) ∧ w6.cell? ⟨sz, 1, none⟩ = some (.int .i64 st) ∧ w6.cell? ⟨q, 1, none⟩ = some (.int .i64 x1) ∧ w6.cell? ⟨q, 2, none⟩ = some (.int .i64 x2) ∧ w6.cell? ⟨q, 3, none⟩ = some (.int .i64 x3) ∧ w6.cell? ⟨q, 7, none⟩ = some (.int .i64 x7) ∧ w6.cell? ⟨q, 8, none⟩ = some (.slice ra rn rc)) := KEP.out _ HB6.out BC6.out
            clear hAf hown6 hg6 hb6)
         | (go_at_call 20
            refine (IH.out g6 0 c6 zs s6 oa oc (Q.eraseIdx k) w6 GP.out).mono ?_
            rintro e w7 ⟨rfl, b7, ht7, h7, hb7⟩
            have HT7 : Hid (Tally w7 g (bif b7 then 1 else 0)) := ht7
            have HB7 : Hid (But g W w7) := HB6.out.trans hb7
            have BC7 : Hid (Box w7 q #[.int .i64 x0, .int .i64 x1, .int .i64 x2, .int .i64 x3, .int .i64 x4, .int .i64 x5, .int .i64 x6, .int .i64 x7, .slice ra rn rc] 52) := hb7.box BC6.out LQ
            have K2 : Hid (w7.cell? ⟨h, 0, none⟩ = some (GoF g h) ∧ w7.cell? ⟨sz, 0, none⟩ = some (.slice (some ⟨p, o, none⟩) 4 c) ∧ w7.cell? ⟨sz, 1, none⟩ = some (.int .i64 st) ∧ w7.cell? ⟨q, 1, none⟩ = some (.int .i64 x1) ∧ w7.cell? ⟨q, 2, none⟩ = some (.int .i64 x2) ∧ w7.cell? ⟨q, 3, none⟩ = some (.int .i64 x3) ∧ w7.cell? ⟨q, 7, none⟩ = some (.int .i64 x7) ∧ w7.cell? ⟨q, 8, none⟩ = some (.slice ra rn rc)) := KEP.out _ HB7.out BC7.out
            have HG7 : Hid (b7 = true ↔ GoL n (L.eraseIdx k) zs s6) := by
              show _ ↔ _
              rw [← HERM.out]
              exact h7
            clear ht7 hb7 h7))
      have HAF' : Hid (AfterM xs st (tcF L k).kd (tcF L k).k (tcF L k).v (tcF L k).cd (tcR L k) zs s6) := by
        rw [HTC.out.1, HTC.out.2]
        exact HAF.out
      have HBK : Hid (b7 = true ↔ ∃ j, j < k1 ∧ ByL n L xs st j) := by
        show _ ↔ _
        rw [HG7.out]
        constructor
        · intro hgo
          exact ⟨k, by have := HKK.out; omega, HM4.out.1 (by simp), HA5.out.1 (by simp), zs, s6, HAF'.out, hgo⟩
        · rintro ⟨j, hj, hby⟩
          by_cases hjk : j = k
          · subst hjk
            obtain ⟨_, _, ys, s, h1, h2⟩ := hby
            obtain ⟨rfl, rfl⟩ := h1.one HAF'.out
            exact h2
          · exact absurd ⟨j, by have := HKK.out; omega, hby⟩ HNY.out
      go_wp2
      exact ⟨⟨k1, b7, hk1m, by first | rfl | go_num, HT7.out, HBK.out, HB7.out⟩, by simp [intOf]; omega⟩
theorem impl_Linear (ra : Option Addr) (n c : Nat) (st : Int) (xs : List Int) (ca : Option Addr) (m cc : Nat) (f : Nat → CaD) (rs : Nat → List Int) (w : World) (hA : IntAt w ra n xs) (hc : n ≤ c) (hi : ∀ x ∈ xs, (Lit.int .i64 x).wf = true) (hm : m ≤ 1048576) (h : CasN w ca m f rs) :
    Calls Tryz.prog 9 #[.agg #[.slice ra n c, .int .i64 st], .slice ca m cc] w fun e w' => Says e (LinM f rs m xs st) ∧ Below w.heap.size w w' := by
  have hmf : ∀ (fn : Fn) (first cap : Array Value) (w : World), (Instr.makeFunc fn first cap).run Tryz.prog w = .ok (.func fn first cap) w := fun _ _ _ _ => rfl
  obtain ⟨G, hG⟩ : ∃ G : Prop, LinM f rs m xs st = G := ⟨_, rfl⟩
  have HG : Hid (G ↔ LinM f rs m xs st) := by show _ ↔ _; rw [hG]
  rw [hG]
  obtain ⟨sz, hsz⟩ : ∃ sz, w.heap.size = sz := ⟨_, rfl⟩
  obtain ⟨W, hW⟩ : ∃ W, w.alloc (.cells #[.slice ra n c, .int .i64 st] 29) = W := ⟨_, rfl⟩
  have hb0 : Below w.heap.size w W := by rw [← hW]; exact (Below.refl _ w).alloc (Nat.le_refl _) _
  have HB0 : Hid (Below w.heap.size w W) := hb0
  have BR : Hid (Box W sz #[.slice ra n c, .int .i64 st] 29) := by rw [← hW, ← hsz]; exact box_of w _ _
  have HC : Hid (CasN w ca m f rs) := h
  have HA : Hid (IntAt w ra n xs) := hA
  have HI : Hid (∀ x ∈ xs, (Lit.int .i64 x).wf = true) := hi
  have HW : Hid (w.alloc (.cells #[.slice ra n c, .int .i64 st] 29) = W) := hW
  have HSZ : Hid (w.heap.size = sz) := hsz
  clear h hb0 hW hG hA hi hsz
  rw [HSZ.out] at HB0 ⊢
  go_enter Tryz.func9, Tryz.ntmps9
  go_wp2_with fail
  rw [HW.out]
  refine (implRowsOk_room ra n c hc st xs W (HA.out.below HB0.out (by rw [HSZ.out]; exact Nat.le_refl _)) HI.out).mono ?_
  rintro e w1 ⟨⟨b1, rfl, h1⟩, hb1⟩
  have HR : Hid (b1 = true ↔ OkRows xs st) := h1
  have HB1 : Hid (Below sz w w1) := HB0.out.trans (hb1.mono (Nat.le_of_lt BR.out.lt))
  have BR1 : Hid (Box w1 sz #[.slice ra n c, .int .i64 st] 29) := BR.out.below hb1 BR.out.lt
  clear h1 hb1
  rcases b1 with _ | _
  · have HNO : Hid (¬ G) := fun hg => by have := HR.out.2 (HG.out.1 hg).1; cases this
    go_wp2
    go_ret
    first | exact ⟨⟨false, rfl, by simp [HNO.out]⟩, HB1.out⟩ | exact ⟨.of_no HNO.out, HB1.out⟩
  have HOK : Hid (OkRows xs st) := HR.out.1 rfl
  by_cases hm7 : m ≤ 7
  case neg =>
    have HNO : Hid (¬ G) := fun hg => hm7 (HG.out.1 hg).2.1
    have hmd : decide ((m : Int) > 7) = true := decide_eq_true (by omega)
    go_wp2
    go_ret
    first | exact ⟨⟨false, rfl, by simp [HNO.out]⟩, HB1.out⟩ | exact ⟨.of_no HNO.out, HB1.out⟩
  have hmd : decide ((m : Int) > 7) = false := decide_eq_false (by omega)
  obtain rfl : n = 4 := by have h1 := HA.out.1; have h2 := HOK.out.1; omega
  obtain ⟨p, o, rfl⟩ : ∃ p o, ra = some ⟨p, o, none⟩ := by
    rcases HA.out.2.2 with h0 | ⟨b, q, e, _⟩
    · omega
    · exact ⟨b, q, e⟩
  obtain ⟨gb, hgb⟩ : ∃ gb, w1.heap.size = gb := ⟨_, rfl⟩
  obtain ⟨U, hU⟩ : ∃ U, (w1.alloc (.cells #[.int .i32 0, .int .u32 0, .int .i64 0] 62)).alloc (.cells #[.nilFunc] 63) = U := ⟨_, rfl⟩
  have hbu : Below gb w1 U := by rw [← hU, ← hgb]; exact ((Below.refl _ w1).alloc (Nat.le_refl _) _).alloc (by simp) _
  have HTU : Hid (Tally U gb 0) := by
    rw [← hU, ← hgb]
    exact Box.alloc (box_of w1 _ _) _
  have BHU : Hid (Box U (gb + 1) #[.nilFunc] 63) := by
    rw [← hU, ← hgb]
    have hx := box_of (w1.alloc (.cells #[.int .i32 0, .int .u32 0, .int .i64 0] 62)) #[.nilFunc] 63
    rw [World.size_alloc] at hx
    exact hx
  have lsz : sz < gb := by rw [← hgb]; exact BR1.out.lt
  have HU : Hid ((w1.alloc (.cells #[.int .i32 0, .int .u32 0, .int .i64 0] 62)).alloc (.cells #[.nilFunc] 63) = U) := hU
  have BRU : Hid (Box U sz #[.slice (some ⟨p, o, none⟩) 4 c, .int .i64 st] 29) := BR1.out.below hbu lsz
  have HBU : Hid (Below sz w U) := HB1.out.trans (hbu.mono (Nat.le_of_lt lsz))
  obtain ⟨V, hV⟩ : ∃ V, U.setCell ⟨gb + 1, 0, none⟩ (GoF gb (gb + 1)) = V := ⟨_, rfl⟩
  have HTV : Hid (Tally V gb 0) := by rw [← hV]; exact Box.set HTU.out (q := ⟨gb + 1, 0, none⟩) (show gb ≠ gb + 1 by omega) _
  have BHV : Hid (Box V (gb + 1) #[GoF gb (gb + 1)] 63) := by rw [← hV]; exact BHU.out.put 0 _
  have BRV : Hid (Box V sz #[.slice (some ⟨p, o, none⟩) 4 c, .int .i64 st] 29) := by rw [← hV]; exact BRU.out.set (q := ⟨gb + 1, 0, none⟩) (show sz ≠ gb + 1 by omega) _
  have HBV : Hid (Below sz w V) := by rw [← hV]; exact HBU.out.setCell (show sz ≤ gb + 1 by omega) _
  have HV : Hid (U.setCell ⟨gb + 1, 0, none⟩ (GoF gb (gb + 1)) = V) := hV
  have HGB : Hid (w1.heap.size = gb) := hgb
  clear hV hbu hgb hU
  go_upto_region 5 with (fail)
  rw [HU.out, HSZ.out]
  (try rw [HGB.out])
  clear HU
  have c0 : U.cell? ⟨gb + 1, 0, none⟩ = some .nilFunc := BHU.out.cell 0
  have z0 : U.frozen? ⟨gb + 1, 0, none⟩ = false := BHU.out.frozen 0
  go_upto_region 6 with (fail)
  rw [HV.out]
  clear HV c0 z0
  obtain ⟨Z, hZ⟩ : ∃ Z, V.drew = Z := ⟨_, rfl⟩
  have HTZ : Hid (Tally Z gb 0) := by rw [← hZ]; exact Box.drew HTV.out
  have BHZ : Hid (Box Z (gb + 1) #[GoF gb (gb + 1)] 63) := by rw [← hZ]; exact BHV.out.drew
  have BRZ : Hid (Box Z sz #[.slice (some ⟨p, o, none⟩) 4 c, .int .i64 st] 29) := by rw [← hZ]; exact BRV.out.drew
  have HBZ : Hid (Below sz w Z) := by rw [← hZ]; exact HBV.out.drew
  have HZ : Hid (V.drew = Z) := hZ
  have hle : w.heap.size ≤ sz := by rw [HSZ.out]; exact Nat.le_refl _
  have HCZ : Hid (CasN Z ca m f rs) := HC.out.below HBZ.out hle
  have HAZ : Hid (∀ y, But gb Z y → IntAt y (some ⟨p, o, none⟩) 4 xs) := fun y hy => HA.out.below (HBZ.out.trans (hy.blw.mono (Nat.le_of_lt lsz))) hle
  have K0 : Hid (V.drew.cell? ⟨gb + 1, 0, none⟩ = some (GoF gb (gb + 1)) ∧ V.drew.cell? ⟨sz, 0, none⟩ = some (.slice (some ⟨p, o, none⟩) 4 c) ∧ V.drew.cell? ⟨sz, 1, none⟩ = some (.int .i64 st)) := by rw [hZ]; exact ⟨oneG_of BHZ.out, twoG_of BRZ.out⟩
  have hE : ∀ (args : Array Value) (w : World), (callFunc 20 args).run Tryz.prog w = .ok (.enter 20 args) w := enters_go
  obtain ⟨T, hT⟩ : ∃ T, toldL f rs m = T := ⟨_, rfl⟩
  have HTT : Hid (toldL f rs m = T) := hT
  have HTL : Hid (T.length ≤ 7) := by show _ ≤ _; rw [← hT]; exact Nat.le_trans (toldL_len f rs m) hm7
  have HGG : Hid (G ↔ GoL T.length T xs st) := by
    show _ ↔ _
    rw [HG.out, go_all]
    unfold LinM
    rw [hT]
    exact ⟨fun h => h.2.2, fun h => ⟨HOK.out, hm7, h⟩⟩
  have lpz : Hid (p ≠ gb) := fun e => by
    subst e
    rcases (HA.out.below HBZ.out hle).2.2 with h0 | ⟨b, q, e, h4⟩
    · omega
    · cases e
      have h5 := World.block_lt_of_cell? w _ (by
        rcases HA.out.2.2 with h0 | ⟨b, q, e, h4⟩
        · omega
        · cases e; exact h4 0 (by omega))
      have h6 : p < w.heap.size := h5
      omega
  clear hZ hT
  go_region_held3 (fun w' => w'.cell? ⟨gb + 1, 0, none⟩ = some (GoF gb (gb + 1)) ∧ w'.cell? ⟨sz, 0, none⟩ = some (.slice (some ⟨p, o, none⟩) 4 c) ∧ w'.cell? ⟨sz, 1, none⟩ = some (.int .i64 st))
    (first | (with_reducible exact K2.out) | (with_reducible exact K1.out) | (with_reducible exact K0.out) | go_keep)
    (first
     | (go_at_call 27
        rw [HZ.out]
        refine (impl_toldOf ca m cc f rs Z hm HCZ.out).mono ?_
        rintro e w2 ⟨v, rfl, hTA, hb2⟩
        rw [HTT.out] at hTA
        obtain ⟨la, lc, Q, rfl, hlc, hQ, hcas⟩ := told_casP (g := gb) hTA (Box.lt HTZ.out)
        have HBZ2 : Hid (But gb Z w2) := .of hb2 (Nat.le_of_lt (Box.lt HTZ.out))
        have HT2 : Hid (Tally w2 gb 0) := HTZ.out.below hb2 (Nat.le_refl _)
        have BH2 : Hid (Box w2 (gb + 1) #[GoF gb (gb + 1)] 63) := BHZ.out.below hb2 BHZ.out.lt
        have BR2 : Hid (Box w2 sz #[.slice (some ⟨p, o, none⟩) 4 c, .int .i64 st] 29) := BRZ.out.below hb2 BRZ.out.lt
        have HQ : Hid (Q.map Prod.fst = T) := hQ
        have GP : Hid (GoP gb (gb + 1) p o c xs st la lc T.length Q w2) := ⟨by rw [← hQ, List.length_map], hlc, hcas, HAZ.out _ HBZ2.out, lpz.out, hc, HOK.out, HT2.out, BH2.out, by omega⟩
        have K1 : Hid (w2.cell? ⟨gb + 1, 0, none⟩ = some (GoF gb (gb + 1)) ∧ w2.cell? ⟨sz, 0, none⟩ = some (.slice (some ⟨p, o, none⟩) 4 c) ∧ w2.cell? ⟨sz, 1, none⟩ = some (.int .i64 st)) := ⟨oneG_of BH2.out, twoG_of BR2.out⟩
        clear hTA hb2 hlc hQ hcas)
     | (go_at_call 20
        refine (impl_goOn gb (gb + 1) T.length HTL.out p o c xs st la lc Q w2 GP.out).mono ?_
        rintro e w3 ⟨rfl, b3, ht3, h3, hb3⟩
        have HT3 : Hid (Tally w3 gb (bif b3 then 1 else 0)) := ht3
        have HB3 : Hid (Below sz w w3) := HBZ.out.trans ((HBZ2.out.trans hb3).blw.mono (Nat.le_of_lt lsz))
        have BH3 : Hid (Box w3 (gb + 1) #[GoF gb (gb + 1)] 63) := hb3.box BH2.out (by omega)
        have BR3 : Hid (Box w3 sz #[.slice (some ⟨p, o, none⟩) 4 c, .int .i64 st] 29) := hb3.box BR2.out (by omega)
        have K2 : Hid (w3.cell? ⟨gb + 1, 0, none⟩ = some (GoF gb (gb + 1)) ∧ w3.cell? ⟨sz, 0, none⟩ = some (.slice (some ⟨p, o, none⟩) 4 c) ∧ w3.cell? ⟨sz, 1, none⟩ = some (.int .i64 st)) := ⟨oneG_of BH3.out, twoG_of BR3.out⟩
        have HB : Hid (b3 = true ↔ G) := by
          show _ ↔ _
          rw [HGG.out, ← HQ.out]
          rw [← HQ.out] at h3
          exact h3
        clear ht3 h3 hb3))
  rcases b3 with _ | _
  · go_wp2_with fail
    refine (tally_some gb 0 w3 HT3.out).mono ?_
    rintro e w4 ⟨rfl, ht4, hb4⟩
    rw [show decide ((0 : Int) > 0) = false from rfl]
    have HB4 : Hid (Below sz w w4) := HB3.out.trans (hb4.blw.mono (Nat.le_of_lt lsz))
    have HNO : Hid (¬ G) := fun hg => by have := HB.out.2 hg; cases this
    clear ht4 hb4
    go_wp2
    go_ret
    first | exact ⟨⟨false, rfl, by simp [HNO.out]⟩, HB4.out⟩ | exact ⟨.of_no HNO.out, HB4.out⟩
  · go_wp2_with fail
    refine (tally_some gb 1 w3 HT3.out).mono ?_
    rintro e w4 ⟨rfl, ht4, hb4⟩
    rw [show decide ((1 : Int) > 0) = true from rfl]
    have HB4 : Hid (Below sz w w4) := HB3.out.trans (hb4.blw.mono (Nat.le_of_lt lsz))
    have HYE : Hid G := HB.out.1 (by simp)
    clear ht4 hb4
    go_wp2
    go_ret
    first | exact ⟨⟨true, rfl, by simp [HYE.out]⟩, HB4.out⟩ | exact ⟨.of_no HYE.out, HB4.out⟩
theorem rowsI_of {w : World} {us : List Value} {cs : List Cel} (h : AtL true w us cs) (hs : HasL cs tyRows) : ∃ ra rn rc st, us = [.slice ra rn rc, .int .i64 st] ∧ rn ≤ rc ∧ numC (nthC cs 1) = st ∧ IntAt w ra rn (nums (listC (nthC cs 0))) := by
  obtain ⟨x0, r0, rfl, T0, hH0⟩ := hs.cons
  obtain ⟨x1, r1, rfl, T1, hH1⟩ := hH0.cons
  obtain rfl := hH1.nil
  obtain ⟨v0, vr0, rfl, A0, hA0⟩ := h.consE
  obtain ⟨v1, vr1, rfl, A1, hA1⟩ := hA0.consE
  obtain rfl := hA1.nilE
  obtain ⟨n0, l0, rfl, _⟩ := T0.list
  obtain ⟨y1, rfl⟩ := T1.int
  obtain rfl := A1.int
  obtain ⟨a0, c0, rfl⟩ := A0.slice
  have hk := (at_kAt A0 T0 i1).ints
  obtain ⟨_, _, _, e0, _, _, _, hq0, _, _⟩ := A0.openL
  cases e0
  exact ⟨a0, n0, c0, y1, rfl, (hq0 rfl).2, rfl, hk⟩
theorem rowsI_wf {cs : List Cel} (hw : WfL cs) (hs : HasL cs tyRows) : ∀ x ∈ nums (listC (nthC cs 0)), (Lit.int .i64 x).wf = true := by
  intro x hx
  obtain ⟨x0, r0, rfl, T0, hH0⟩ := hs.cons
  obtain ⟨n6, l6, rfl, e6⟩ := T0.list
  have h6 := hw 0 _ rfl
  have hx : x ∈ nums l6 := hx
  unfold nums at hx
  obtain ⟨c, hc, rfl⟩ := List.mem_map.1 hx
  obtain ⟨j, hj, rfl⟩ := List.getElem_of_mem hc
  cases h6 with
  | l _ _ _ _ h =>
    have hcj := h j _ (List.getElem?_eq_getElem hj)
    cases T0 with
    | l _ _ _ _ _ hk hl hh =>
      have ht := hh j _ .i (List.getElem?_eq_getElem hj) (by rw [Nat.mod_one]; rfl)
      obtain ⟨y, hy⟩ := ht.int
      rw [hy] at hcj ⊢
      cases hcj with
      | i _ h => exact h
theorem implLinear_law (us : List Value) (cs : List Cel) (v : Value) (n : Nat) (cl : List Cel) (w : World) (h : AtL true w us cs) (hs : HasL cs tyRows) (h' : At true w v (.l 52 9 n cl)) (hs' : Has (.l 52 9 n cl) (.l 52 9 tyCall)) (hb : n + bigL cl ≤ 1048576) (hw : WfL cs) (_hw' : WfL cl) :
    Calls Tryz.prog 9 #[.agg us.toArray, v] w fun e w' => Says e (LinM (fD cl) (rD cl) n (nums (listC (nthC cs 0))) (numC (nthC cs 1))) ∧ Below w.heap.size w w' := by
  have hwf := rowsI_wf hw hs
  obtain ⟨ra, rn, rc, st, rfl, hcap, hst, hI⟩ := rowsI_of h hs
  obtain ⟨ca, cc, rfl, hC⟩ := at_calls_n h' hs' (by omega)
  rw [hst]
  exact impl_Linear ra rn rc st _ ca n cc _ _ w hI hcap hwf (by omega) hC
theorem dSzIntS (v : Value) (n : Nat) (cs : List Cel) (left : Int) (w : World) (h : In w v (.l 3 1 n cs)) (hs : Has (.l 3 1 n cs) (.l 3 1 [.i])) (h0 : 0 ≤ left) (h1 : left ≤ 2097152) :
    Calls Tryz.prog 12 #[v, .int .i64 left] w (Left w (n + bigL cs) left) := by
  have hz := big_flat hs (by decide)
  obtain ⟨a, c, vs, rfl, -, -, hn, -, -⟩ := h.openL
  have HZ : Hid (n + bigL cs = n) := by show _ = _; omega
  clear hs hz
  by_cases hl : (n : Int) ≤ left
  · have h2 : ¬ (left - (n : Int) < 0) := by omega
    go_enter Tryz.func12, Tryz.ntmps12
    go_wp2
    go_ret
    refine ⟨Below.refl _ _, .inl ⟨_, rfl, ?_⟩⟩
    rw [HZ.out]
    exact ⟨hl, rfl⟩
  · have h2 : left - (n : Int) < 0 := by omega
    go_enter Tryz.func12, Tryz.ntmps12
    go_wp2
    go_ret
    refine ⟨Below.refl _ _, .inr ⟨rfl, ?_⟩⟩
    rw [HZ.out]
    omega
theorem dSzRes (vs : List Value) (cs : List Cel) (left : Int) (w : World) (h : InL w vs cs) (hs : HasL cs tyRes) (h0 : 0 ≤ left) (h1 : left ≤ 2097152) : Calls Tryz.prog 30 #[.agg vs.toArray, .int .i64 left] w (Left w (bigL cs) left) := by
  obtain ⟨c0, r0, rfl, T0, hH0⟩ := hs.cons
  obtain ⟨c1, r1, rfl, T1, hH1⟩ := hH0.cons
  obtain rfl := hH1.nil
  obtain ⟨v0, vr0, rfl, A0, hA0⟩ := h.consE
  obtain ⟨v1, vr1, rfl, A1, hA1⟩ := hA0.consE
  obtain rfl := hA1.nilE
  obtain ⟨x0, rfl⟩ := T0.int
  obtain rfl := A0.int
  obtain ⟨n1, cs1, rfl, -⟩ := T1.list
  have HT1 : Hid (Has (.l 3 1 n1 cs1) (.l 3 1 [.i])) := T1
  have hA1' : Hid (In w v1 (.l 3 1 n1 cs1)) := A1
  clear hs h hA0 hH0 T0 A0 hA1 hH1 T1 A1
  obtain ⟨W, hW⟩ : ∃ W, w.alloc (.cells #[.int .i64 x0, v1] 41) = W := ⟨_, rfl⟩
  have t0 : Hid (One w W #[.int .i64 x0, v1] 41) := by rw [← hW]; exact one_new w _ _
  have HW : Hid _ := hW
  clear hW
  go_enter Tryz.func30, Tryz.ntmps30
  go_upto_region 1 with (fail)
  rw [HW.out]
  have ax0 : W.cell? ⟨w.heap.size, 0, none⟩ = some (.int .i64 x0) := t0.out.a.cell 0
  have ax1 : W.cell? ⟨w.heap.size, 1, none⟩ = some (v1) := t0.out.a.cell 1
  go_wp2_with fail
  refine (dSzIntS v1 n1 cs1 _ _ (hA1'.out.on t0.out.on (Nat.le_refl _)) HT1.out (by omega) (by omega)).mono ?_
  rintro e w1 ⟨hb, hc⟩
  obtain ⟨m1, hm1⟩ : ∃ m, n1 + bigL cs1 = m := ⟨_, rfl⟩
  rw [hm1] at hc
  have HM1 : Hid (n1 + bigL cs1 = m1) := hm1
  clear hm1
  have t1 : Hid (One w w1 #[.int .i64 x0, v1] 41) := t0.out.call hb
  clear hb ax0 ax1
  have ax0 : w1.cell? ⟨w.heap.size, 0, none⟩ = some (.int .i64 x0) := t1.out.a.cell 0
  have ax1 : w1.cell? ⟨w.heap.size, 1, none⟩ = some (v1) := t1.out.a.cell 1
  rcases hc with ⟨r1, rfl, hr1, hq1⟩ | ⟨rfl, hr1⟩
  rotate_left
  · go_wp2
    go_ret
    refine ⟨t1.out.on, .inr ⟨rfl, ?_⟩⟩
    have e : bigL [.i x0, .l 3 1 n1 cs1] = ((n1 + bigL cs1)) := by simp [bigL, Cel.big]; try omega
    rw [e]
    have e1 := HM1.out
    (try simp only [bigL, Cel.big] at *)
    omega
  have g1 : ¬ r1 < 0 := by omega
  go_wp2
  go_ret
  refine ⟨t1.out.on, .inl ⟨_, rfl, ?_⟩⟩
  have e : bigL [.i x0, .l 3 1 n1 cs1] = (n1 + bigL cs1) := by simp [bigL, Cel.big]; try omega
  rw [e]
  have e1 := HM1.out
  (try simp only [bigL, Cel.big] at *)
  omega
theorem dSzRows (vs : List Value) (cs : List Cel) (left : Int) (w : World) (h : InL w vs cs) (hs : HasL cs tyRows) (h0 : 0 ≤ left) (h1 : left ≤ 2097152) : Calls Tryz.prog 4 #[.agg vs.toArray, .int .i64 left] w (Left w (bigL cs) left) := by
  obtain ⟨c0, r0, rfl, T0, hH0⟩ := hs.cons
  obtain ⟨c1, r1, rfl, T1, hH1⟩ := hH0.cons
  obtain rfl := hH1.nil
  obtain ⟨v0, vr0, rfl, A0, hA0⟩ := h.consE
  obtain ⟨v1, vr1, rfl, A1, hA1⟩ := hA0.consE
  obtain rfl := hA1.nilE
  obtain ⟨n0, cs0, rfl, -⟩ := T0.list
  have HT0 : Hid (Has (.l 3 1 n0 cs0) (.l 3 1 [.i])) := T0
  have hA0' : Hid (In w v0 (.l 3 1 n0 cs0)) := A0
  obtain ⟨x1, rfl⟩ := T1.int
  obtain rfl := A1.int
  clear hs h hA0 hH0 T0 A0 hA1 hH1 T1 A1
  obtain ⟨W, hW⟩ : ∃ W, w.alloc (.cells #[v0, .int .i64 x1] 24) = W := ⟨_, rfl⟩
  have t0 : Hid (One w W #[v0, .int .i64 x1] 24) := by rw [← hW]; exact one_new w _ _
  have HW : Hid _ := hW
  clear hW
  go_enter Tryz.func4, Tryz.ntmps4
  go_upto_region 1 with (fail)
  rw [HW.out]
  have ax0 : W.cell? ⟨w.heap.size, 0, none⟩ = some (v0) := t0.out.a.cell 0
  have ax1 : W.cell? ⟨w.heap.size, 1, none⟩ = some (.int .i64 x1) := t0.out.a.cell 1
  go_wp2_with fail
  refine (dSzIntS v0 n0 cs0 _ _ (hA0'.out.on t0.out.on (Nat.le_refl _)) HT0.out (by omega) (by omega)).mono ?_
  rintro e w1 ⟨hb, hc⟩
  obtain ⟨m1, hm1⟩ : ∃ m, n0 + bigL cs0 = m := ⟨_, rfl⟩
  rw [hm1] at hc
  have HM1 : Hid (n0 + bigL cs0 = m1) := hm1
  clear hm1
  have t1 : Hid (One w w1 #[v0, .int .i64 x1] 24) := t0.out.call hb
  clear hb ax0 ax1
  have ax0 : w1.cell? ⟨w.heap.size, 0, none⟩ = some (v0) := t1.out.a.cell 0
  have ax1 : w1.cell? ⟨w.heap.size, 1, none⟩ = some (.int .i64 x1) := t1.out.a.cell 1
  rcases hc with ⟨r1, rfl, hr1, hq1⟩ | ⟨rfl, hr1⟩
  rotate_left
  · go_wp2
    go_ret
    refine ⟨t1.out.on, .inr ⟨rfl, ?_⟩⟩
    have e : bigL [.l 3 1 n0 cs0, .i x1] = ((n0 + bigL cs0)) := by simp [bigL, Cel.big]; try omega
    rw [e]
    have e1 := HM1.out
    (try simp only [bigL, Cel.big] at *)
    omega
  have g1 : ¬ r1 < 0 := by omega
  go_wp2
  go_ret
  refine ⟨t1.out.on, .inl ⟨_, rfl, ?_⟩⟩
  have e : bigL [.l 3 1 n0 cs0, .i x1] = (n0 + bigL cs0) := by simp [bigL, Cel.big]; try omega
  rw [e]
  have e1 := HM1.out
  (try simp only [bigL, Cel.big] at *)
  omega
theorem dSzCall (vs : List Value) (cs : List Cel) (left : Int) (w : World) (h : InL w vs cs) (hs : HasL cs tyCall) (h0 : 0 ≤ left) (h1 : left ≤ 2097152) : Calls Tryz.prog 13 #[.agg vs.toArray, .int .i64 left] w (Left w (bigL cs) left) := by
  obtain ⟨c0, r0, rfl, T0, hH0⟩ := hs.cons
  obtain ⟨c1, r1, rfl, T1, hH1⟩ := hH0.cons
  obtain ⟨c2, r2, rfl, T2, hH2⟩ := hH1.cons
  obtain ⟨c3, r3, rfl, T3, hH3⟩ := hH2.cons
  obtain ⟨c4, r4, rfl, T4, hH4⟩ := hH3.cons
  obtain ⟨c5, r5, rfl, T5, hH5⟩ := hH4.cons
  obtain ⟨c6, r6, rfl, T6, hH6⟩ := hH5.cons
  obtain ⟨c7, r7, rfl, T7, hH7⟩ := hH6.cons
  obtain ⟨c8, r8, rfl, T8, hH8⟩ := hH7.cons
  obtain rfl := hH8.nil
  obtain ⟨v0, vr0, rfl, A0, hA0⟩ := h.consE
  obtain ⟨v1, vr1, rfl, A1, hA1⟩ := hA0.consE
  obtain ⟨v2, vr2, rfl, A2, hA2⟩ := hA1.consE
  obtain ⟨v3, vr3, rfl, A3, hA3⟩ := hA2.consE
  obtain ⟨v4, vr4, rfl, A4, hA4⟩ := hA3.consE
  obtain ⟨v5, vr5, rfl, A5, hA5⟩ := hA4.consE
  obtain ⟨v6, vr6, rfl, A6, hA6⟩ := hA5.consE
  obtain ⟨v7, vr7, rfl, A7, hA7⟩ := hA6.consE
  obtain ⟨v8, vr8, rfl, A8, hA8⟩ := hA7.consE
  obtain rfl := hA8.nilE
  obtain ⟨x0, rfl⟩ := T0.int
  obtain rfl := A0.int
  obtain ⟨x1, rfl⟩ := T1.int
  obtain rfl := A1.int
  obtain ⟨x2, rfl⟩ := T2.int
  obtain rfl := A2.int
  obtain ⟨x3, rfl⟩ := T3.int
  obtain rfl := A3.int
  obtain ⟨x4, rfl⟩ := T4.int
  obtain rfl := A4.int
  obtain ⟨x5, rfl⟩ := T5.int
  obtain rfl := A5.int
  obtain ⟨x6, rfl⟩ := T6.int
  obtain rfl := A6.int
  obtain ⟨x7, rfl⟩ := T7.int
  obtain rfl := A7.int
  obtain ⟨n8, cs8, rfl, -⟩ := T8.list
  have HT8 : Hid (Has (.l 3 1 n8 cs8) (.l 3 1 [.i])) := T8
  have hA8' : Hid (In w v8 (.l 3 1 n8 cs8)) := A8
  have HN1 : Hid (InL w [.int .i64 x1, .int .i64 x2, .int .i64 x3] [.i x1, .i x2, .i x3]) := InL.cons (.i x1) (InL.cons (.i x2) (InL.cons (.i x3) (InL.nil)))
  have HH1 : Hid (HasL [.i x1, .i x2, .i x3] tyOp) := ⟨rfl, fun j c t hc ht => by
    have hj : j < 3 := by have := (List.getElem?_eq_some_iff.1 hc).1; simpa using this
    rcases (show j = 0 ∨ j = 1 ∨ j = 2 by omega) with rfl | rfl | rfl <;> (simp [tyOp] at hc ht; subst hc ht)
    · exact .i x1
    · exact .i x2
    · exact .i x3⟩
  have HN7 : Hid (InL w [.int .i64 x7, v8] [.i x7, .l 3 1 n8 cs8]) := InL.cons (.i x7) (InL.cons (hA8'.out) (InL.nil))
  have HH7 : Hid (HasL [.i x7, .l 3 1 n8 cs8] tyRes) := ⟨rfl, fun j c t hc ht => by
    have hj : j < 2 := by have := (List.getElem?_eq_some_iff.1 hc).1; simpa using this
    rcases (show j = 0 ∨ j = 1 by omega) with rfl | rfl <;> (simp [tyRes] at hc ht; subst hc ht)
    · exact .i x7
    · exact HT8.out⟩
  clear hs h hA0 hH0 T0 A0 hA1 hH1 T1 A1 hA2 hH2 T2 A2 hA3 hH3 T3 A3 hA4 hH4 T4 A4 hA5 hH5 T5 A5 hA6 hH6 T6 A6 hA7 hH7 T7 A7 hA8 hH8 T8 A8
  obtain ⟨W, hW⟩ : ∃ W, w.alloc (.cells #[.int .i64 x0, .int .i64 x1, .int .i64 x2, .int .i64 x3, .int .i64 x4, .int .i64 x5, .int .i64 x6, .int .i64 x7, v8] 43) = W := ⟨_, rfl⟩
  have t0 : Hid (One w W #[.int .i64 x0, .int .i64 x1, .int .i64 x2, .int .i64 x3, .int .i64 x4, .int .i64 x5, .int .i64 x6, .int .i64 x7, v8] 43) := by rw [← hW]; exact one_new w _ _
  have HW : Hid _ := hW
  clear hW
  go_enter Tryz.func13, Tryz.ntmps13
  go_upto_region 1 with (fail)
  rw [HW.out]
  have ax0 : W.cell? ⟨w.heap.size, 0, none⟩ = some (.int .i64 x0) := t0.out.a.cell 0
  have ax1 : W.cell? ⟨w.heap.size, 1, none⟩ = some (.int .i64 x1) := t0.out.a.cell 1
  have ax2 : W.cell? ⟨w.heap.size, 2, none⟩ = some (.int .i64 x2) := t0.out.a.cell 2
  have ax3 : W.cell? ⟨w.heap.size, 3, none⟩ = some (.int .i64 x3) := t0.out.a.cell 3
  have ax4 : W.cell? ⟨w.heap.size, 4, none⟩ = some (.int .i64 x4) := t0.out.a.cell 4
  have ax5 : W.cell? ⟨w.heap.size, 5, none⟩ = some (.int .i64 x5) := t0.out.a.cell 5
  have ax6 : W.cell? ⟨w.heap.size, 6, none⟩ = some (.int .i64 x6) := t0.out.a.cell 6
  have ax7 : W.cell? ⟨w.heap.size, 7, none⟩ = some (.int .i64 x7) := t0.out.a.cell 7
  have ax8 : W.cell? ⟨w.heap.size, 8, none⟩ = some (v8) := t0.out.a.cell 8
  go_wp2_with fail
  refine (dSzRes [.int .i64 x7, v8] [.i x7, .l 3 1 n8 cs8] _ _ (HN7.out.on t0.out.on (Nat.le_refl _)) HH7.out (by omega) (by omega)).mono ?_
  rintro e w1 ⟨hb, hc⟩
  obtain ⟨m1, hm1⟩ : ∃ m, bigL [.i x7, .l 3 1 n8 cs8] = m := ⟨_, rfl⟩
  rw [hm1] at hc
  have HM1 : Hid (bigL [.i x7, .l 3 1 n8 cs8] = m1) := hm1
  clear hm1
  have t1 : Hid (One w w1 #[.int .i64 x0, .int .i64 x1, .int .i64 x2, .int .i64 x3, .int .i64 x4, .int .i64 x5, .int .i64 x6, .int .i64 x7, v8] 43) := t0.out.call hb
  clear hb ax0 ax1 ax2 ax3 ax4 ax5 ax6 ax7 ax8
  have ax0 : w1.cell? ⟨w.heap.size, 0, none⟩ = some (.int .i64 x0) := t1.out.a.cell 0
  have ax1 : w1.cell? ⟨w.heap.size, 1, none⟩ = some (.int .i64 x1) := t1.out.a.cell 1
  have ax2 : w1.cell? ⟨w.heap.size, 2, none⟩ = some (.int .i64 x2) := t1.out.a.cell 2
  have ax3 : w1.cell? ⟨w.heap.size, 3, none⟩ = some (.int .i64 x3) := t1.out.a.cell 3
  have ax4 : w1.cell? ⟨w.heap.size, 4, none⟩ = some (.int .i64 x4) := t1.out.a.cell 4
  have ax5 : w1.cell? ⟨w.heap.size, 5, none⟩ = some (.int .i64 x5) := t1.out.a.cell 5
  have ax6 : w1.cell? ⟨w.heap.size, 6, none⟩ = some (.int .i64 x6) := t1.out.a.cell 6
  have ax7 : w1.cell? ⟨w.heap.size, 7, none⟩ = some (.int .i64 x7) := t1.out.a.cell 7
  have ax8 : w1.cell? ⟨w.heap.size, 8, none⟩ = some (v8) := t1.out.a.cell 8
  rcases hc with ⟨r1, rfl, hr1, hq1⟩ | ⟨rfl, hr1⟩
  rotate_left
  · go_wp2
    go_ret
    refine ⟨t1.out.on, .inr ⟨rfl, ?_⟩⟩
    have e : bigL [.i x0, .i x1, .i x2, .i x3, .i x4, .i x5, .i x6, .i x7, .l 3 1 n8 cs8] = ((n8 + bigL cs8)) := by simp [bigL, Cel.big]; try omega
    rw [e]
    have e1 := HM1.out
    (try simp only [bigL, Cel.big] at *)
    omega
  have g1 : ¬ r1 < 0 := by omega
  go_wp2
  go_ret
  refine ⟨t1.out.on, .inl ⟨_, rfl, ?_⟩⟩
  have e : bigL [.i x0, .i x1, .i x2, .i x3, .i x4, .i x5, .i x6, .i x7, .l 3 1 n8 cs8] = (n8 + bigL cs8) := by simp [bigL, Cel.big]; try omega
  rw [e]
  have e1 := HM1.out
  (try simp only [bigL, Cel.big] at *)
  omega
theorem dSzCallS (v : Value) (n : Nat) (cs : List Cel) (left : Int) (w : World) (h : In w v (.l 52 9 n cs)) (hs : Has (.l 52 9 n cs) (.l 52 9 tyCall)) (h0 : 0 ≤ left) (h1 : left ≤ 2097152) :
    Calls Tryz.prog 5 #[v, .int .i64 left] w (Left w (n + bigL cs) left) := by
  obtain ⟨a, c, vs, rfl, h2, h3, hn, h4, h5⟩ := h.openL
  have SRC : Hid (n = 0 ∨ ∃ b o, a = some ⟨b, o, none⟩ ∧ ∀ j, j < n * 9 → w.cell? ⟨b, o + j, none⟩ = vs[j]?) := h4
  have HV : Hid (∀ j, j < n → InL w ((vs.drop (j * 9)).take 9) (row cs 9 j)) := fun j hj => rowIn h2 h3 h5 hj
  have HR : Hid (∀ j, j < n → HasL (row cs 9 j) tyCall) := fun j hj => hs.rowL hj
  have L1 : Hid (vs.length = n * 9) := h2
  have L2 : Hid (cs.length = n * 9) := h3
  clear h h2 h3 h4 h5 hs
  by_cases hl : (n : Int) ≤ left
  rotate_left
  · have h2 : left - (n : Int) < 0 := by omega
    go_enter Tryz.func5, Tryz.ntmps5
    go_wp2
    go_ret
    exact ⟨Below.refl _ _, .inr ⟨rfl, by omega⟩⟩
  have h2 : ¬ (left - (n : Int) < 0) := by omega
  go_enter Tryz.func5, Tryz.ntmps5
  go_wp2
  go_loopw [1, 5] (fun l i wr => ∃ (j : Nat) (r : Int), j ≤ n ∧ l = .int .i64 r ∧ i = .int .i64 (j : Int) ∧ 0 ≤ r ∧ r = left - (n : Int) - (bigL (cs.take (j * 9)) : Int) ∧ Below w.heap.size w wr) (fun _ i _ => n - (intOf i).toNat)
  case atStart => exact ⟨0, left - n, Nat.zero_le _, rfl, rfl, by omega, by simp [bigL], Below.refl _ _⟩
  case round =>
    obtain ⟨j, r, hj, rfl, rfl, hr0, hr1, hb⟩ := hrel
    have HQ : Hid (r = left - (n : Int) - (bigL (cs.take (j * 9)) : Int)) := hr1
    have hr2 : r ≤ 2097152 := by omega
    clear hr1
    by_cases hlt : j < n
    · rcases SRC.out with h0' | ⟨p1, o1, rfl, g1⟩
      · omega
      have hk0 : (0 : Int) ≤ (j : Int) := by omega
      have hk1 : (j : Int) < (n : Int) := by omega
      have hle : j * 9 + 9 ≤ n * 9 := by omega
      have hA := HV.out j hlt
      have hH := HR.out j hlt
      have ce : ∀ i, i < 9 → wr.cell? ⟨p1, o1 + (j * 9 + i), none⟩ = ((vs.drop (j * 9)).take 9)[i]? := fun i hi => by
        have h5 := g1 (j * 9 + i) (by omega)
        rw [List.getElem?_take_of_lt hi, List.getElem?_drop, ← h5]
        have h6 : w.cell? ⟨p1, o1 + (j * 9 + i), none⟩ = some (vs[j * 9 + i]'(by have := L1.out; omega)) := by rw [h5, List.getElem?_eq_getElem (by have := L1.out; omega)]
        exact hb.cell (show p1 < w.heap.size from World.block_lt_of_cell? w _ h6)
      obtain ⟨rs, hrs⟩ : ∃ rs, row cs 9 j = rs := ⟨_, rfl⟩
      obtain ⟨ws, hws⟩ : ∃ ws, (vs.drop (j * 9)).take 9 = ws := ⟨_, rfl⟩
      have HRS : Hid (row cs 9 j = rs) := hrs
      rw [hrs] at hA hH
      rw [hws] at hA ce
      clear g1 hrs hws
      obtain ⟨c0, r0, rfl, T0, hH0⟩ := hH.cons
      obtain ⟨c1, r1, rfl, T1, hH1⟩ := hH0.cons
      obtain ⟨c2, r2, rfl, T2, hH2⟩ := hH1.cons
      obtain ⟨c3, r3, rfl, T3, hH3⟩ := hH2.cons
      obtain ⟨c4, r4, rfl, T4, hH4⟩ := hH3.cons
      obtain ⟨c5, r5, rfl, T5, hH5⟩ := hH4.cons
      obtain ⟨c6, r6, rfl, T6, hH6⟩ := hH5.cons
      obtain ⟨c7, r7, rfl, T7, hH7⟩ := hH6.cons
      obtain ⟨c8, r8, rfl, T8, hH8⟩ := hH7.cons
      obtain rfl := hH8.nil
      have HL0 : Hid (HasL [c0, c1, c2, c3, c4, c5, c6, c7, c8] tyCall) := hH
      obtain ⟨v0, vr0, rfl, A0, hA0⟩ := hA.consE
      obtain ⟨v1, vr1, rfl, A1, hA1⟩ := hA0.consE
      obtain ⟨v2, vr2, rfl, A2, hA2⟩ := hA1.consE
      obtain ⟨v3, vr3, rfl, A3, hA3⟩ := hA2.consE
      obtain ⟨v4, vr4, rfl, A4, hA4⟩ := hA3.consE
      obtain ⟨v5, vr5, rfl, A5, hA5⟩ := hA4.consE
      obtain ⟨v6, vr6, rfl, A6, hA6⟩ := hA5.consE
      obtain ⟨v7, vr7, rfl, A7, hA7⟩ := hA6.consE
      obtain ⟨v8, vr8, rfl, A8, hA8⟩ := hA7.consE
      obtain rfl := hA8.nilE
      have HA0 : Hid (InL w [v0, v1, v2, v3, v4, v5, v6, v7, v8] [c0, c1, c2, c3, c4, c5, c6, c7, c8]) := hA
      have e0 : wr.cell? ⟨p1, o1 + j * 9, none⟩ = some v0 := ce 0 (by omega)
      have e1 : wr.cell? ⟨p1, o1 + j * 9 + 1, none⟩ = some v1 := ce 1 (by omega)
      have e2 : wr.cell? ⟨p1, o1 + j * 9 + 2, none⟩ = some v2 := ce 2 (by omega)
      have e3 : wr.cell? ⟨p1, o1 + j * 9 + 3, none⟩ = some v3 := ce 3 (by omega)
      have e4 : wr.cell? ⟨p1, o1 + j * 9 + 4, none⟩ = some v4 := ce 4 (by omega)
      have e5 : wr.cell? ⟨p1, o1 + j * 9 + 5, none⟩ = some v5 := ce 5 (by omega)
      have e6 : wr.cell? ⟨p1, o1 + j * 9 + 6, none⟩ = some v6 := ce 6 (by omega)
      have e7 : wr.cell? ⟨p1, o1 + j * 9 + 7, none⟩ = some v7 := ce 7 (by omega)
      have e8 : wr.cell? ⟨p1, o1 + j * 9 + 8, none⟩ = some v8 := ce 8 (by omega)
      clear ce hA hH hA0 hH0 T0 A0 hA1 hH1 T1 A1 hA2 hH2 T2 A2 hA3 hH3 T3 A3 hA4 hH4 T4 A4 hA5 hH5 T5 A5 hA6 hH6 T6 A6 hA7 hH7 T7 A7 hA8 hH8 T8 A8
      obtain ⟨m, hm⟩ : ∃ m, bigL [c0, c1, c2, c3, c4, c5, c6, c7, c8] = m := ⟨_, rfl⟩
      have HM : Hid (bigL (cs.take ((j + 1) * 9)) = bigL (cs.take (j * 9)) + m) := by show _ = _; rw [row_split, bigL_append, HRS.out, hm]
      have MON : Hid (bigL (cs.take ((j + 1) * 9)) ≤ bigL cs) := by
        show _ ≤ _
        have := bigL_append (cs.take ((j + 1) * 9)) (cs.drop ((j + 1) * 9))
        rw [List.take_append_drop] at this
        omega
      go_wp2_with fail
      refine (dSzCall [v0, v1, v2, v3, v4, v5, v6, v7, v8] [c0, c1, c2, c3, c4, c5, c6, c7, c8] _ _ (HA0.out.on hb (Nat.le_refl _)) HL0.out hr0 hr2).mono ?_
      rintro e w2 ⟨hb2, hc⟩
      rw [hm] at hc
      have hb02 : Below w.heap.size w w2 := hb.trans (hb2.mono hb.size)
      clear hb2 hm e0 e1 e2 e3 e4 e5 e6 e7 e8
      rcases hc with ⟨r2, rfl, hq1, rfl⟩ | ⟨rfl, hq⟩
      · have g : ¬ r - (m : Int) < 0 := by omega
        go_wp2
        exact ⟨⟨j + 1, r - (m : Int), by omega, rfl, by go_num, by omega, by have h5 := HM.out; have h6 := HQ.out; omega, hb02⟩, by simp [intOf]; omega⟩
      · go_wp2
        go_ret
        exact ⟨hb02, .inr ⟨rfl, by have h5 := HM.out; have h6 := HQ.out; have h7 := MON.out; omega⟩⟩
    · obtain rfl : j = n := by omega
      have HE : Hid (cs.take (j * 9) = cs) := List.take_of_length_le (by have := L2.out; omega)
      go_wp2
      go_ret
      refine ⟨hb, .inl ⟨_, rfl, ?_⟩⟩
      have h6 := HQ.out
      rw [HE.out] at h6
      omega
end
end Go.Proofs.YtecheopkfhfgkaaGreat
