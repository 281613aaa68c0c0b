/- Texts joined: VasO, InB, SpecPj, SchL, SpecKr, DatCd, DatI, SchC, DatO, IntsC, DatM. -/
import Derived.Test.YtmgofehafjogfabKR01
import Derived.Test.YtmgofehafjogfabRows
import Derived.WalkKit
import Derived.ProofKit
import Derived.Deep.RegionHeld3
import Derived.Deep.Cut
import Derived.Handy
import Derived.Lib.SmallJoins
import Derived.Deep.Slices
set_option maxHeartbeats 4000000
set_option maxRecDepth 100000
namespace Go.Proofs.Ytmgofehafjogfab
section
open Go.ChangeShapes Go.WideShapes Go.ChangeAt Go.RowKit
def vaC : List Va3 → List Value
  | [] => []
  | x :: L => .int .i64 x.1 :: .int .i64 x.2.1 :: .string x.2.2 :: vaC L
theorem vaC_length : ∀ L : List Va3, (vaC L).length = L.length * 3
  | [] => rfl
  | x :: L => by rw [vaC]; simp [vaC_length L]; omega
theorem vaC_append : ∀ L M : List Va3, vaC (L ++ M) = vaC L ++ vaC M
  | [], _ => rfl
  | x :: L, M => by
    show vaC (x :: (L ++ M)) = _
    rw [vaC, vaC, vaC_append L M]
    rfl
theorem vaC_at : ∀ {L : List Va3} {i : Nat} {x : Va3}, L[i]? = some x → (vaC L)[i * 3]? = some (.int .i64 x.1) ∧ (vaC L)[i * 3 + 1]? = some (.int .i64 x.2.1) ∧ (vaC L)[i * 3 + 2]? = some (.string x.2.2)
  | [], _, _, h => by simp at h
  | y :: L, 0, x, h => by
    simp at h
    subst h
    exact ⟨rfl, rfl, rfl⟩
  | y :: L, i + 1, x, h => by
    have h1 := vaC_at (L := L) (i := i) (x := x) (by simpa using h)
    rw [vaC, show (i + 1) * 3 = i * 3 + 1 + 1 + 1 by omega]
    exact h1
theorem vaC_one {L : List Va3} : ∀ u ∈ vaC L, u.oneCell' = true := by
  induction L with
  | nil => intro u hu; cases hu
  | cons x L ih =>
    intro u hu
    rw [vaC] at hu
    rcases List.mem_cons.1 hu with rfl | hu
    · rfl
    rcases List.mem_cons.1 hu with rfl | hu
    · rfl
    rcases List.mem_cons.1 hu with rfl | hu
    · rfl
    exact ih u hu
abbrev VOwn (w : World) (base : Nat) (v : Value) (L : List Va3) : Prop := w.ownsRow base 55 3 v L.length (vaC L)
theorem own_vas {w : World} {base : Nat} {v : Value} {L : List Va3} (h : VOwn w base v L) (hn : L.length ≤ 2097152) : ∃ a c, v = .slice a L.length c ∧ L.length ≤ c ∧ VasAt w a L.length L := by
  rcases h.2 with ⟨rfl, h0⟩ | ⟨g, cap, cur, rfl, _, _, hc, _⟩
  · exact ⟨none, 0, by rw [h0], by omega, rfl, hn, .inl h0⟩
  · refine ⟨_, cap, rfl, hc, rfl, hn, .inr ⟨g, 0, rfl, fun i x hi => ?_⟩⟩
    obtain ⟨h1, h2, h3⟩ := vaC_at hi
    rw [Nat.zero_add]
    exact ⟨own_cellV h h1, own_cellV h h2, own_cellV h h3⟩
theorem infoVal : (Try.prog.info? 55).map (fun i => (i.zero, i.size, i.bytes)) = some (some (.agg #[.int .i64 0, .int .i64 0, .string ⟨#[]⟩]), 3, 32) := by kernel_rfl
theorem vown_nil (w : World) {base g : Nat} (hg : w.heap.size = g) (hb : base ≤ g) : VOwn (w.alloc (.cells #[] 55)) base (.slice (some ⟨g, 0, none⟩) 0 0) [] := by
  subst hg
  exact ⟨rfl, .inr ⟨_, 0, #[], rfl, hb, heap_alloc_new w _, Nat.le_refl _, by unfold maxLen; omega, rfl, rfl⟩⟩
theorem vnews (w : World) (g : Nat) (hg : w.heap.size = g) (x : Va3) : ∀ j u, (vaC [x])[j]? = some u → (w.alloc (.cells #[.int .i64 x.1, .int .i64 x.2.1, .string x.2.2] 55)).cell? ((⟨g, 0, none⟩ : Addr).add j) = some u := by
  intro j u hj
  subst hg
  rw [add_plain, Nat.zero_add, (box_of w #[.int .i64 x.1, .int .i64 x.2.1, .string x.2.2] 55).cell j]
  simpa [vaC] using hj
theorem list_appV {ops : Array Oper} {rest : List Oper} {o : Oper} {a : Act} (w : World) {Q : Exit → Act → World → Prop} (hg : o.guard = none) (s x : Operand)
    (ho : o.op = .call { callee := .builtin .append, args := #[s, x], argTypes := #[30, 30] })
    (base : Nat) (v : Value) (L : List Va3) (hs : a.eval s = v) (hown : VOwn w base v L)
    (ad : Addr) (m c : Nat) (M : List Va3) (hM : M.length = m) (hx : a.eval x = .slice (some ad) m c) (hnews : ∀ j u, (vaC M)[j]? = some u → w.cell? (ad.add j) = some u)
    (hle : L.length + m ≤ 2097152) (hbase : base ≤ w.heap.size)
    (h : ∀ v' w', VOwn w' base v' (L ++ M) → (∀ a' : World, ∀ B : Nat, B ≤ base → Below B a' w → Below B a' w') → (v' = .slice none 0 0 ↔ v = .slice none 0 0 ∧ m = 0) → wpList Try.prog ops Q rest (a.put o.dst v') w') : wpList Try.prog ops Q (o :: rest) a w := by
  obtain ⟨i0, hi, hz0, hz1, hz2⟩ := info_parts infoVal
  refine wpList_append_own w hg s x 30 ho base 55 i0 _ 3 32 Try.underlying30 hi hz0 hz1 hz2 (by rfl) (by decide) v L.length (vaC L) hs hown ad m c (vaC M) hx (by rw [vaC_length, hM]) hnews vaC_one (by unfold maxLen; omega) (by omega) hbase ?_
  intro v' w' hown' hgrow hnil
  refine h v' w' ?_ (fun a' B hB hb => below_app hb (Nat.le_trans hB hbase) (fun k hk => Nat.le_trans hB (own_block hown k hk)) hgrow) hnil
  unfold VOwn
  rw [vaC_append, List.length_append, hM]
  exact hown'
def inB (x lo hi : Int) : Bool := decide (lo ≤ x ∧ x ≤ hi)
theorem inB_yes {x lo hi : Int} (h : lo ≤ x ∧ x ≤ hi) : inB x lo hi = true := decide_eq_true h
theorem inB_no {x lo hi : Int} (h : ¬ (lo ≤ x ∧ x ≤ hi)) : inB x lo hi = false := decide_eq_false h
theorem inB_val {x lo hi : Int} (h : inB x lo hi = true) : lo ≤ x ∧ x ≤ hi := by unfold inB at h; simpa using h
theorem l1In_g (x lo hi : Int) (w : World) : Calls Try.prog 39 #[.int .i64 x, .int .i64 lo, .int .i64 hi] w fun e w' => e = .returned (.bool (inB x lo hi)) ∧ w' = w := by
  by_cases h0 : lo ≤ x
  · by_cases h1 : x ≤ hi
    · rw [inB_yes ⟨h0, h1⟩]
      go_enter Try.func39, Try.ntmps39
      go_wp2
      go_ret
      exact ⟨rfl, rfl⟩
    · rw [inB_no (fun h => h1 h.2)]
      go_enter Try.func39, Try.ntmps39
      go_wp2
      go_ret
      exact ⟨rfl, rfl⟩
  · rw [inB_no (fun h => h0 h.1)]
    go_enter Try.func39, Try.ntmps39
    go_wp2
    go_ret
    exact ⟨rfl, rfl⟩
theorem specProject_any (a : Option Addr) (n c : Nat) (L : List Va3) (b : Option Addr) (m d : Nat) (xs : List Int) (w : World) (h : VasAt w a n L) (hb : IntAt w b m xs) (hm : m ≤ 2097152) :
    Calls Try.prog 22 #[.slice a n c, .slice b m d] w fun e w' => (∃ v, e = .returned v ∧ VOwn w' w.heap.size v (projL L xs)) ∧ Below w.heap.size w w' := by
  have HL : Hid (VasAt w a n L) := h
  have HX : Hid (IntAt w b m xs) := hb
  have hl := h.1
  have hn := h.2.1
  have hxl := hb.1
  obtain ⟨g, hg⟩ : ∃ g, w.heap.size = g := ⟨_, rfl⟩
  obtain ⟨W, hW⟩ : ∃ W, w.alloc (.cells #[] 55) = W := ⟨_, rfl⟩
  have HG : Hid (w.heap.size = g) := hg
  have HW : Hid (w.alloc (.cells #[] 55) = W) := hW
  have O0 : Hid (VOwn W g (.slice (some ⟨g, 0, none⟩) 0 0) []) := by rw [← hW]; exact vown_nil w hg (Nat.le_refl _)
  have HB0 : Hid (Below g w W) := by rw [← hW]; exact (Below.refl _ w).alloc (Nat.le_of_eq hg.symm) _
  have HS0 : Hid (g ≤ W.heap.size) := by show g ≤ W.heap.size; rw [← hW, World.size_alloc, hg]; exact Nat.le_succ _
  have WSUB : Hid (IntKind.i64.wrap ((n : Int) - 1) = (n : Int) - 1) := by show _ = _; rw [IntKind.wrap_i64]; omega
  have hwz : IntKind.i64.wrap ((n : Int) - 1) = (n : Int) - 1 := WSUB.out
  rw [hg]
  clear hW hg h hb
  go_enter Try.func22, Try.ntmps22
  go_upto_region 2 with (fail)
  rw [HW.out, HG.out]
  go_wp2
  go_loopw [5, 6] (fun v i wr => ∃ j : Nat, j ≤ m ∧ i = .int .i64 (j : Int) ∧ VOwn wr g v (projL L (xs.take j)) ∧ Below g w wr ∧ g ≤ wr.heap.size) (fun _ i _ => m - (RowKit.intOf i).toNat)
  case atStart => exact ⟨0, Nat.zero_le _, rfl, by simpa [projL] using O0.out, HB0.out, HS0.out⟩
  case round =>
    obtain ⟨j, hj, rfl, ho, hb, hs⟩ := hrel
    have HO : Hid (VOwn wr g u5 (projL L (xs.take j))) := ho
    have HBW : Hid (Below g w wr) := hb
    have HSZ : Hid (g ≤ wr.heap.size) := hs
    clear ho hb hs
    by_cases hlt : j < m
    · rcases (HX.out.below HBW.out (Nat.le_of_eq HG.out)).2.2 with h0 | ⟨p2, o2, rfl, g2⟩
      · omega
      obtain ⟨x, hx⟩ : ∃ x, xs[j]? = some x := ⟨_, List.getElem?_eq_getElem (by omega)⟩
      have hxd : xs.getD j 0 = x := by simp [List.getD, hx]
      have e0 := g2 j hlt
      rw [hxd] at e0
      have HSN : Hid (projL L (xs.take (j + 1)) = projL L (xs.take j) ++ projOne L x) := proj_snoc L hx
      have HPL : Hid ((projL L (xs.take j)).length ≤ j) := Nat.le_trans (proj_len L _) (by rw [List.length_take]; omega)
      have hk0 : (0 : Int) ≤ (j : Int) := by omega
      have hk1 : (j : Int) < (m : Int) := by omega
      clear hx hxd g2
      obtain ⟨bi, hbi⟩ : ∃ b, inB x 0 ((n : Int) - 1) = b := ⟨_, rfl⟩
      have HBI : Hid (inB x 0 ((n : Int) - 1) = bi) := hbi
      clear hbi
      go_wp2_with fail
      refine (l1In_g _ _ _ _).mono ?_
      rintro e w2 ⟨rfl, rfl⟩
      rw [HBI.out]
      cases bi
      · have HPO : Hid (projOne L x = []) := by
          show _ = _
          unfold projOne
          rw [if_neg]
          intro hv
          have h1 := inB_yes (show 0 ≤ x ∧ x ≤ (n : Int) - 1 by omega)
          rw [HBI.out] at h1
          cases h1
        go_wp2
        exact ⟨⟨j + 1, by omega, by go_num, by rw [HSN.out, HPO.out, List.append_nil]; exact HO.out, HBW.out, HSZ.out⟩, by simp [RowKit.intOf]; omega⟩
      · have hv := inB_val HBI.out
        obtain ⟨k, rfl⟩ : ∃ k : Nat, x = (k : Int) := ⟨x.toNat, by omega⟩
        rcases (HL.out.below HBW.out (Nat.le_of_eq HG.out)).2.2 with h0 | ⟨p1, o1, rfl, g1⟩
        · omega
        obtain ⟨y, hy⟩ : ∃ y, L[k]? = some y := ⟨_, List.getElem?_eq_getElem (by omega)⟩
        have HPO : Hid (projOne L (k : Int) = [y]) := proj_yes hy
        obtain ⟨d0, d1, d2⟩ := g1 k y hy
        obtain ⟨ky, my, sy⟩ := y
        dsimp only at d0 d1 d2
        have hk2 : (0 : Int) ≤ (k : Int) := by omega
        have hk3 : (k : Int) < (n : Int) := by omega
        clear g1 hy hv
        go_wp2_with
          (at_builtin
           refine list_appV _ rfl _ _ rfl g u5 _ rfl (owns_below HO.out ((Below.refl _ _).alloc (Nat.le_refl _) _) (Nat.le_refl _)) ⟨w2.heap.size, 0, none⟩ 1 1 [(ky, my, sy)] rfl rfl (vnews _ _ rfl (ky, my, sy)) (by have := HPL.out; omega) (by have := HSZ.out; simp; omega) ?_
           intro v4 w4 hown hbel hnil
           have O4 : Hid (VOwn w4 g v4 (projL L (xs.take (j + 1)))) := by rw [HSN.out, HPO.out]; exact hown
           have hb4 : Below g w2 w4 := hbel w2 g (Nat.le_refl _) ((Below.refl g w2).alloc HSZ.out _)
           have B4 : Hid (Below g w w4) := HBW.out.trans hb4
           have Z4 : Hid (g ≤ w4.heap.size) := Nat.le_trans HSZ.out hb4.size
           clear hown hbel hb4 hnil)
        exact ⟨⟨j + 1, by omega, by go_num, O4.out, B4.out, Z4.out⟩, by simp [RowKit.intOf]; omega⟩
    · obtain rfl : j = m := by omega
      have HE : Hid (xs.take j = xs) := List.take_of_length_le (by omega)
      have ho := HO.out
      rw [HE.out] at ho
      have HOE : Hid (VOwn wr g u5 (projL L xs)) := ho
      clear ho
      go_wp2
      go_ret
      exact ⟨⟨_, rfl, HOE.out⟩, HBW.out⟩
abbrev Col3 := ByteArray × Int × Bool
abbrev Idx3 := ByteArray × List Int × Bool
instance : Inhabited Col3 := ⟨(⟨#[]⟩, 0, false)⟩
instance : Inhabited Idx3 := ⟨(⟨#[]⟩, [], false)⟩
structure SchD where
  cols : List Col3
  key : List Int
  idx : List Idx3
def ColsAt (w : World) (a : Option Addr) (n : Nat) (L : List Col3) : Prop :=
  L.length = n ∧ n ≤ 2097152 ∧ (n = 0 ∨ ∃ b o, a = some ⟨b, o, none⟩ ∧ ∀ i x, L[i]? = some x → w.cell? ⟨b, o + i * 3, none⟩ = some (.string x.1) ∧ w.cell? ⟨b, o + i * 3 + 1, none⟩ = some (.int .i64 x.2.1) ∧ w.cell? ⟨b, o + i * 3 + 2, none⟩ = some (.bool x.2.2))
theorem ColsAt.below {w w' : World} {a : Option Addr} {n : Nat} {L : List Col3} (h : ColsAt w a n L) {B : Nat} (hb : Below B w w') (hB : w.heap.size ≤ B) : ColsAt w' a n L := by
  obtain ⟨h1, h2, h3 | ⟨b, o, h3, h4⟩⟩ := h
  · exact ⟨h1, h2, .inl h3⟩
  · refine ⟨h1, h2, .inr ⟨b, o, h3, fun i x hi => ?_⟩⟩
    obtain ⟨h5, h6, h7⟩ := h4 i x hi
    have hlt : b < B := Nat.lt_of_lt_of_le (World.block_lt_of_cell? w _ h5) hB
    exact ⟨(hb.cell hlt).trans h5, (hb.cell hlt).trans h6, (hb.cell hlt).trans h7⟩
def IdxAt (w : World) (a : Option Addr) (n : Nat) (L : List Idx3) : Prop :=
  L.length = n ∧ n ≤ 2097152 ∧ (n = 0 ∨ ∃ b o, a = some ⟨b, o, none⟩ ∧ ∀ i x, L[i]? = some x → w.cell? ⟨b, o + i * 3, none⟩ = some (.string x.1) ∧ (∃ ai ni ci, w.cell? ⟨b, o + i * 3 + 1, none⟩ = some (.slice ai ni ci) ∧ ni ≤ ci ∧ ni ≤ 2097152 ∧ IntAt w ai ni x.2.1) ∧ w.cell? ⟨b, o + i * 3 + 2, none⟩ = some (.bool x.2.2))
theorem IdxAt.below {w w' : World} {a : Option Addr} {n : Nat} {L : List Idx3} (h : IdxAt w a n L) {B : Nat} (hb : Below B w w') (hB : w.heap.size ≤ B) : IdxAt w' a n L := by
  obtain ⟨h1, h2, h3 | ⟨b, o, h3, h4⟩⟩ := h
  · exact ⟨h1, h2, .inl h3⟩
  · refine ⟨h1, h2, .inr ⟨b, o, h3, fun i x hi => ?_⟩⟩
    obtain ⟨h5, h6, h7⟩ := h4 i x hi
    have hlt : b < B := Nat.lt_of_lt_of_le (World.block_lt_of_cell? w _ h5) hB
    obtain ⟨ai, ni, ci, g1, g2, g3, g4⟩ := h6
    exact ⟨(hb.cell hlt).trans h5, ⟨ai, ni, ci, (hb.cell hlt).trans g1, g2, g3, g4.below hb hB⟩, (hb.cell hlt).trans h7⟩
abbrev ScV (a1 : Option Addr) (n1 c1 : Nat) (a2 : Option Addr) (n2 c2 : Nat) (a3 : Option Addr) (n3 c3 : Nat) : Value := .agg #[.slice a1 n1 c1, .slice a2 n2 c2, .slice a3 n3 c3]
structure SchAt (w : World) (a1 : Option Addr) (n1 c1 : Nat) (a2 : Option Addr) (n2 c2 : Nat) (a3 : Option Addr) (n3 c3 : Nat) (S : SchD) : Prop where
  cols : ColsAt w a1 n1 S.cols
  key : IntAt w a2 n2 S.key
  idx : IdxAt w a3 n3 S.idx
  r1 : n1 ≤ c1
  r2 : n2 ≤ c2
  r3 : n3 ≤ c3
  k2 : n2 ≤ 2097152
theorem SchAt.below {w w' : World} {a1 a2 a3 : Option Addr} {n1 c1 n2 c2 n3 c3 : Nat} {S : SchD} (h : SchAt w a1 n1 c1 a2 n2 c2 a3 n3 c3 S) {B : Nat} (hb : Below B w w') (hB : w.heap.size ≤ B) : SchAt w' a1 n1 c1 a2 n2 c2 a3 n3 c3 S :=
  ⟨h.cols.below hb hB, h.key.below hb hB, h.idx.below hb hB, h.r1, h.r2, h.r3, h.k2⟩

def lowB (b : UInt8) : Prop := 97 ≤ b.toNat ∧ b.toNat ≤ 122
instance (b : UInt8) : Decidable (lowB b) := by unfold lowB; infer_instance
def CnGood (s : ByteArray) : Prop := (∀ b ∈ s.data.toList, lowB b) ∧ 1 ≤ s.size ∧ s.size ≤ 12
instance (s : ByteArray) : Decidable (CnGood s) := by unfold CnGood; infer_instance
def PlGood (nc : Nat) (l : List Int) (most : Nat) : Prop := (∀ x ∈ l, 0 ≤ x ∧ x < (nc : Int)) ∧ l.Nodup ∧ 1 ≤ l.length ∧ l.length ≤ most
instance (nc : Nat) (l : List Int) (most : Nat) : Decidable (PlGood nc l most) := by unfold PlGood; infer_instance
def colAt : List Col3 → ByteArray → Int
  | [], _ => -1
  | x :: L, s => if x.1 = s then 0 else if colAt L s = -1 then -1 else colAt L s + 1
def IxGood (nc : Nat) (L : List Idx3) : Prop := (∀ x ∈ L, CnGood x.1 ∧ PlGood nc x.2.1 3) ∧ (L.map (·.1)).Nodup ∧ L.length ≤ 3
instance (nc : Nat) (L : List Idx3) : Decidable (IxGood nc L) := by unfold IxGood; infer_instance
def fast (L : List Col3) (x : Int) : Prop := (L.getD x.toNat default).2.2 = false
instance (L : List Col3) (x : Int) : Decidable (fast L x) := by unfold fast; infer_instance
def ScGood (S : SchD) : Prop :=
  (∀ x ∈ S.cols, CnGood x.1 ∧ 1 ≤ x.2.1 ∧ x.2.1 ≤ 3) ∧ (S.cols.map (·.1)).Nodup ∧ (1 ≤ S.cols.length ∧ S.cols.length ≤ 5) ∧ PlGood S.cols.length S.key 4 ∧ IxGood S.cols.length S.idx ∧ ∀ x ∈ S.key, fast S.cols x
instance (S : SchD) : Decidable (ScGood S) := by unfold ScGood; infer_instance
theorem specKeyOfRow_any (a1 : Option Addr) (n1 c1 : Nat) (a2 : Option Addr) (n2 c2 : Nat) (a3 : Option Addr) (n3 c3 : Nat) (S : SchD) (ra : Option Addr) (rn rc : Nat) (L : List Va3) (w : World) (h : SchAt w a1 n1 c1 a2 n2 c2 a3 n3 c3 S) (hA : VasAt w ra rn L) :
    Calls Try.prog 7 #[ScV a1 n1 c1 a2 n2 c2 a3 n3 c3, .slice ra rn rc] w fun e w' => (∃ v, e = .returned v ∧ VOwn w' w.heap.size v (projL L S.key)) ∧ Below w.heap.size w w' := by
  obtain ⟨W, hW⟩ : ∃ W, w.alloc (.cells #[.slice a1 n1 c1, .slice a2 n2 c2, .slice a3 n3 c3] 35) = W := ⟨_, rfl⟩
  obtain ⟨g, hg⟩ : ∃ g, w.heap.size = g := ⟨_, rfl⟩
  have HG : Hid (w.heap.size = g) := hg
  have HB0 : Hid (Below g w W) := by rw [← hW, ← hg]; exact (Below.refl _ w).alloc (Nat.le_refl _) _
  have X0 : Hid (Box W g #[.slice a1 n1 c1, .slice a2 n2 c2, .slice a3 n3 c3] 35) := by rw [← hW, ← hg]; exact box_of w _ _
  have HW : Hid (w.alloc (.cells #[.slice a1 n1 c1, .slice a2 n2 c2, .slice a3 n3 c3] 35) = W) := hW
  have HSA : Hid (SchAt W a1 n1 c1 a2 n2 c2 a3 n3 c3 S) := h.below HB0.out (Nat.le_of_eq hg)
  have BX : Hid (∀ y, Below W.heap.size W y → y.cell? ⟨g, 0, none⟩ = some (.slice a1 n1 c1) ∧ y.cell? ⟨g, 1, none⟩ = some (.slice a2 n2 c2) ∧ y.cell? ⟨g, 2, none⟩ = some (.slice a3 n3 c3)) := fun y hb => (X0.out.below hb X0.out.lt).triV
  have HGS : Hid (g ≤ W.heap.size) := Nat.le_of_lt X0.out.lt
  rw [hg]
  clear hW hg h
  have HLA : Hid (VasAt W ra rn L) := hA.below HB0.out (Nat.le_of_eq HG.out)
  clear hA
  go_enter Try.func7, Try.ntmps7
  go_upto_region 1 with (fail)
  rw [HW.out, HG.out]
  obtain ⟨c0, c1', c2'⟩ := BX.out _ (Below.refl _ _)
  go_wp2_with fail
  refine (specProject_any ra rn rc L a2 n2 c2 S.key _ HLA.out HSA.out.key HSA.out.k2).mono ?_
  rintro e w1 ⟨⟨v, rfl, ho⟩, hb1⟩
  have O1 : Hid (VOwn w1 W.heap.size v (projL L S.key)) := ho
  have HB1 : Hid (Below W.heap.size W w1) := hb1
  clear ho hb1
  go_wp2
  go_ret
  exact ⟨⟨_, rfl, own_weaken O1.out HGS.out⟩, HB0.out.trans (HB1.out.mono HGS.out)⟩
end
section
open Go.ChangeShapes Go.WideShapes Go.ChangeAt Go.RowKit Go.Joins
set_option linter.unusedSimpArgs false

def tyCol : List Ty := [(.s), (.i), (.b)]
def tyIndex : List Ty := [(.s), (.l 3 1 [.i]), (.b)]
def tySchema : List Ty := [(.l 65 3 tyCol), (.l 3 1 [.i]), (.l 75 3 tyIndex)]
inductive In (w : World) : Value → Cel → Prop
  | i (x : Int) : In w (.int .i64 x) (.i x)
  | b (x : Bool) : In w (.bool x) (.b x)
  | s (x : ByteArray) (hx : x.size ≤ 9223372036854775807) : In w (.string x) (.s x)
  | l (a : Option Addr) (T : TypeId) (k n c : Nat) (cs : List Cel) (vs : List Value) (h1 : vs.length = n * k) (h2 : cs.length = n * k) (hn : n ≤ 9223372036854775807)
      (h3 : n = 0 ∨ ∃ b o, a = some ⟨b, o, none⟩ ∧ ∀ j, j < n * k → w.cell? ⟨b, o + j, none⟩ = vs[j]?) (h4 : ∀ (j : Nat) (v : Value) (c : Cel), vs[j]? = some v → cs[j]? = some c → In w v c) : In w (.slice a n c) (.l T k n cs)
def InL (w : World) (vs : List Value) (cs : List Cel) : Prop := vs.length = cs.length ∧ ∀ (j : Nat) (v : Value) (c : Cel), vs[j]? = some v → cs[j]? = some c → In w v c
theorem In.on {w w' : World} {v : Value} {c : Cel} (h : In w v c) {B : Nat} (hb : Below B w w') (hB : w.heap.size ≤ B) : In w' v c := by
  induction h with
  | i x => exact .i x
  | b x => exact .b x
  | s x hx => exact .s x hx
  | l a T k n c cs vs h1 h2 hn h3 h4 ih =>
    refine .l a T k n c cs vs h1 h2 hn ?_ ih
    rcases h3 with h3 | ⟨b, o, e, g⟩
    · exact .inl h3
    · refine .inr ⟨b, o, e, fun j hj => ?_⟩
      have h5 := g j hj
      have h6 : w.cell? ⟨b, o + j, none⟩ = some (vs[j]'(by omega)) := by rw [h5, List.getElem?_eq_getElem (by omega)]
      rw [hb.cell (show b < B from Nat.lt_of_lt_of_le (World.block_lt_of_cell? w _ h6) hB)]
      exact h5
theorem InL.on {w w' : World} {vs : List Value} {cs : List Cel} (h : InL w vs cs) {B : Nat} (hb : Below B w w') (hB : w.heap.size ≤ B) : InL w' vs cs :=
  ⟨h.1, fun j v c hv hc => (h.2 j v c hv hc).on hb hB⟩
theorem big_mem : ∀ {cs : List Cel} {j : Nat} {c : Cel}, cs[j]? = some c → c.big ≤ bigL cs
  | [], _, _, h => by simp at h
  | d :: cs, 0, c, h => by simp at h; subst h; simp [bigL]
  | d :: cs, j + 1, c, h => by
    have := big_mem (cs := cs) (j := j) (by simpa using h)
    simp only [bigL]; omega
theorem In.at {w : World} {v : Value} {c : Cel} (h : In w v c) (hb : c.big ≤ 2097152) : At false w v c := by
  induction h with
  | i x => exact .i x
  | b x => exact .b x
  | s x hx => exact .s x
  | l a T k n c cs vs h1 h2 hn h3 h4 ih =>
    simp only [Cel.big] at hb
    exact .l a T k n c cs vs h1 h2 (by omega) (fun h => by cases h) h3 fun j v c hv hc => ih j v c hv hc (by have := big_mem hc; omega)
theorem InL.at {w : World} {vs : List Value} {cs : List Cel} (h : InL w vs cs) (hb : bigL cs ≤ 2097152) : AtL false w vs cs :=
  ⟨h.1, fun j v c hv hc => (h.2 j v c hv hc).at (by have := big_mem hc; omega)⟩
theorem InL.nil {w : World} : InL w [] [] := ⟨rfl, fun j v c hv _ => by simp at hv⟩
theorem InL.cons {w : World} {v : Value} {c : Cel} {vs : List Value} {cs : List Cel} (h : In w v c) (hs : InL w vs cs) : InL w (v :: vs) (c :: cs) := by
  refine ⟨by simp [hs.1], fun j v' c' hv hc => ?_⟩
  cases j with
  | zero => simp at hv hc; subst hv hc; exact h
  | succ j => simp at hv hc; exact hs.2 j v' c' hv hc
theorem InL.nilE {w : World} {vs : List Value} (h : InL w vs []) : vs = [] := List.length_eq_zero_iff.1 h.1
theorem InL.consE {w : World} {vs : List Value} {c : Cel} {cs : List Cel} (h : InL w vs (c :: cs)) : ∃ v vs', vs = v :: vs' ∧ In w v c ∧ InL w vs' cs := by
  match vs, h with
  | [], h => have := h.1; simp at this
  | v :: vs', h => exact ⟨v, vs', rfl, h.2 0 v c rfl rfl, ⟨by have := h.1; simpa using this, fun j v' c' hv hc => h.2 (j + 1) v' c' (by simpa using hv) (by simpa using hc)⟩⟩
theorem In.int {w : World} {v : Value} {x : Int} (h : In w v (.i x)) : v = .int .i64 x := by cases h; rfl
theorem In.bool {w : World} {v : Value} {x : Bool} (h : In w v (.b x)) : v = .bool x := by cases h; rfl
theorem In.strL {w : World} {v : Value} {x : ByteArray} (h : In w v (.s x)) : v = .string x ∧ x.size ≤ 9223372036854775807 := by cases h; exact ⟨rfl, by assumption⟩
theorem In.str {w : World} {v : Value} {x : ByteArray} (h : In w v (.s x)) : v = .string x := by cases h; rfl
theorem In.openL {w : World} {v : Value} {T : TypeId} {k n : Nat} {cs : List Cel} (h : In w v (.l T k n cs)) : ∃ (a : Option Addr) (c : Nat) (vs : List Value), v = .slice a n c ∧ vs.length = n * k ∧ cs.length = n * k ∧ n ≤ 9223372036854775807 ∧
    (n = 0 ∨ ∃ b o, a = some ⟨b, o, none⟩ ∧ ∀ j, j < n * k → w.cell? ⟨b, o + j, none⟩ = vs[j]?) ∧ ∀ (j : Nat) (v : Value) (c : Cel), vs[j]? = some v → cs[j]? = some c → In w v c := by
  cases h with
  | l a T k n c cs vs h1 h2 hn h3 h4 => exact ⟨a, c, vs, rfl, h1, h2, hn, h3, h4⟩
theorem rowIn {w : World} {k n j : Nat} {cs : List Cel} {vs : List Value} (h1 : vs.length = n * k) (h2 : cs.length = n * k) (h4 : ∀ (j : Nat) (v : Value) (c : Cel), vs[j]? = some v → cs[j]? = some c → In w v c) (hj : j < n) : InL w ((vs.drop (j * k)).take k) (row cs k j) := by
  have hle : j * k + k ≤ n * k := by rw [← Nat.succ_mul]; exact Nat.mul_le_mul_right k hj
  refine ⟨by rw [rowL_len h2 hj, List.length_take, List.length_drop, h1]; omega, fun i v c hv hc => ?_⟩
  have hi : i < k := by have := (List.getElem?_eq_some_iff.1 hc).1; rw [rowL_len h2 hj] at this; exact this
  rw [row_at hi] at hc
  rw [List.getElem?_take_of_lt hi, List.getElem?_drop] at hv
  exact h4 _ v c hv hc
def Ty.flat : Ty → Bool
  | .i => true
  | .b => true
  | _ => false
theorem bigL_zero : ∀ {cs : List Cel}, (∀ (j : Nat) (c : Cel), cs[j]? = some c → c.big = 0) → bigL cs = 0
  | [], _ => rfl
  | c :: cs, h => by
    have h0 := h 0 c rfl
    have h1 := bigL_zero (cs := cs) fun j c' hc => h (j + 1) c' (by simpa using hc)
    simp only [bigL]; omega
theorem big_flat {T : TypeId} {k n : Nat} {cs : List Cel} {fs : List Ty} (h : Has (.l T k n cs) (.l T k fs)) (hf : fs.all Ty.flat = true) : bigL cs = 0 := by
  cases h with
  | l _ _ _ _ _ hk h1 h2 =>
    refine bigL_zero fun j c hc => ?_
    have hj : j < n * k := by have := (List.getElem?_eq_some_iff.1 hc).1; omega
    have hk0 : 0 < k := by
      rcases Nat.eq_zero_or_pos k with h0 | h0
      · rw [h0] at hj; simp at hj
      · exact h0
    have hm : j % k < fs.length := by rw [hk]; exact Nat.mod_lt _ hk0
    have ht : fs[j % k]? = some (fs[j % k]'hm) := List.getElem?_eq_getElem hm
    have h3 := h2 j c _ hc ht
    have h4 : Ty.flat (fs[j % k]'hm) = true := (List.all_eq_true.1 hf) _ (List.getElem_mem hm)
    revert h3 h4
    generalize fs[j % k]'hm = t
    intro h3 h4
    cases h3 <;> simp [Ty.flat, Cel.big] at h4 ⊢
def Left (w : World) (m : Nat) (l : Int) (e : Ending) (w' : World) : Prop := Below w.heap.size w w' ∧ ((∃ r : Int, e = .returned (.int .i64 r) ∧ (m : Int) ≤ l ∧ r = l - (m : Int)) ∨ (e = .returned (.int .i64 (-1)) ∧ l < (m : Int)))
structure One (w W : World) (A : Array Value) (T : TypeId) : Prop where
  a : Box W w.heap.size A T
  on : Below w.heap.size w W
theorem one_new (w : World) (A : Array Value) (T : TypeId) : One w (w.alloc (.cells A T)) A T := ⟨box_of w A T, (Below.refl _ w).alloc (Nat.le_refl _) _⟩
theorem One.call {w W W' : World} {A : Array Value} {T : TypeId} (h : One w W A T) (hb : Below W.heap.size W W') : One w W' A T := ⟨h.a.below hb h.a.lt, h.on.trans (hb.mono h.on.size)⟩
def colD (r : List Cel) : Col3 := (textC (nthC r 0), numC (nthC r 1), boolC (nthC r 2))
def colsD (cs : List Cel) (n : Nat) : List Col3 := (List.range n).map fun i => colD (row cs 3 i)
def idxD (r : List Cel) : Idx3 := (textC (nthC r 0), nums (listC (nthC r 1)), boolC (nthC r 2))
def idxsD (cs : List Cel) (n : Nat) : List Idx3 := (List.range n).map fun i => idxD (row cs 3 i)
def schD (cs : List Cel) : SchD := ⟨colsD (listC (nthC cs 0)) (lenC (nthC cs 0)), nums (listC (nthC cs 1)), idxsD (listC (nthC cs 2)) (lenC (nthC cs 2))⟩
theorem ints_of {w : World} {v : Value} {n : Nat} {cs : List Cel} (h : At true w v (.l 3 1 n cs)) (hs : Has (.l 3 1 n cs) (.l 3 1 [.i])) : ∃ a c, v = .slice a n c ∧ IntAt w a n (nums cs) ∧ n ≤ 2097152 ∧ n ≤ c := by
  obtain ⟨a, c, vs, rfl, h1, h2, hn, hq, h3, h4⟩ := h.openL
  refine ⟨a, c, rfl, ⟨by unfold nums; rw [List.length_map]; omega, by omega, ?_⟩, hn, (hq rfl).2⟩
  rcases h3 with h0 | ⟨b, o, rfl, hc⟩
  · exact .inl h0
  · refine .inr ⟨b, o, rfl, fun j hj => ?_⟩
    rw [hc j (by omega)]
    have hv : vs[j]? = some (vs[j]'(by omega)) := List.getElem?_eq_getElem (by omega)
    have hcj : cs[j]? = some (cs[j]'(by omega)) := List.getElem?_eq_getElem (by omega)
    have hat := h4 j _ _ hv hcj
    obtain ⟨x, hx⟩ : ∃ x, cs[j]'(by omega) = .i x := by
      cases hs with
      | l _ _ _ _ _ hk hl hh =>
        have ht := hh j _ _ hcj (show ([.i] : List Ty)[j % 1]? = some .i by rw [Nat.mod_one]; rfl)
        exact ht.int
    rw [hx] at hat
    rw [hv, hat.int]
    have : (nums cs).getD j 0 = x := by
      unfold nums
      have hjc : j < cs.length := by omega
      simp [List.getD, hjc, hx, numC]
    rw [this]
theorem cols_of {w : World} {v : Value} {n : Nat} {cs : List Cel} (h : At true w v (.l 65 3 n cs)) (hs : Has (.l 65 3 n cs) (.l 65 3 tyCol)) : ∃ a c, v = .slice a n c ∧ ColsAt w a n (colsD cs n) ∧ n ≤ c := by
  obtain ⟨a, c, vs, rfl, h1, h2, hn, hq, h3, h4⟩ := h.openL
  refine ⟨a, c, rfl, ⟨by simp [colsD], hn, ?_⟩, (hq rfl).2⟩
  rcases h3 with h0 | ⟨b, o, rfl, hc⟩
  · exact .inl h0
  · refine .inr ⟨b, o, rfl, fun i x hx => ?_⟩
    have hi : i < n := by have := (List.getElem?_eq_some_iff.1 hx).1; simpa [colsD] using this
    have hx' : x = colD (row cs 3 i) := by
      have := (List.getElem?_eq_some_iff.1 hx).2
      rw [← this]
      simp [colsD]
    have hA := rowVals h1 h2 h4 hi
    have hH := hs.rowL hi
    have hcv : ∀ r, r < 3 → w.cell? ⟨b, o + (i * 3 + r), none⟩ = ((vs.drop (i * 3)).take 3)[r]? := fun r hr => by
      rw [List.getElem?_take_of_lt hr, List.getElem?_drop]
      exact hc (i * 3 + r) (by omega)
    subst hx'
    obtain ⟨rs, hrs⟩ : ∃ rs, row cs 3 i = rs := ⟨_, rfl⟩
    obtain ⟨ws, hws⟩ : ∃ ws, (vs.drop (i * 3)).take 3 = ws := ⟨_, rfl⟩
    rw [hrs] at hA hH ⊢
    rw [hws] at hA hcv
    obtain ⟨x0, r0, rfl, T0, hH0⟩ := hH.cons
    obtain ⟨x1, r1, rfl, T1, hH1⟩ := hH0.cons
    obtain ⟨x2, r2, rfl, T2, hH2⟩ := hH1.cons
    obtain rfl := hH2.nil
    obtain ⟨v0, vr0, rfl, A0, hA0⟩ := hA.consE
    obtain ⟨v1, vr1, rfl, A1, hA1⟩ := hA0.consE
    obtain ⟨v2, vr2, rfl, A2, hA2⟩ := hA1.consE
    obtain rfl := hA2.nilE
    obtain ⟨y0, rfl⟩ := T0.str
    obtain rfl := A0.str
    obtain ⟨y1, rfl⟩ := T1.int
    obtain rfl := A1.int
    obtain ⟨y2, rfl⟩ := T2.bool
    obtain rfl := A2.bool
    exact ⟨hcv 0 (by omega), by have := hcv 1 (by omega); rw [Nat.add_assoc]; exact this, by have := hcv 2 (by omega); rw [Nat.add_assoc]; exact this⟩
theorem idxs_of {w : World} {v : Value} {n : Nat} {cs : List Cel} (h : At true w v (.l 75 3 n cs)) (hs : Has (.l 75 3 n cs) (.l 75 3 tyIndex)) : ∃ a c, v = .slice a n c ∧ IdxAt w a n (idxsD cs n) ∧ n ≤ c := by
  obtain ⟨a, c, vs, rfl, h1, h2, hn, hq, h3, h4⟩ := h.openL
  refine ⟨a, c, rfl, ⟨by simp [idxsD], hn, ?_⟩, (hq rfl).2⟩
  rcases h3 with h0 | ⟨b, o, rfl, hc⟩
  · exact .inl h0
  · refine .inr ⟨b, o, rfl, fun i x hx => ?_⟩
    have hi : i < n := by have := (List.getElem?_eq_some_iff.1 hx).1; simpa [idxsD] using this
    have hx' : x = idxD (row cs 3 i) := by
      have := (List.getElem?_eq_some_iff.1 hx).2
      rw [← this]
      simp [idxsD]
    have hA := rowVals h1 h2 h4 hi
    have hH := hs.rowL hi
    have hcv : ∀ r, r < 3 → w.cell? ⟨b, o + (i * 3 + r), none⟩ = ((vs.drop (i * 3)).take 3)[r]? := fun r hr => by
      rw [List.getElem?_take_of_lt hr, List.getElem?_drop]
      exact hc (i * 3 + r) (by omega)
    subst hx'
    obtain ⟨rs, hrs⟩ : ∃ rs, row cs 3 i = rs := ⟨_, rfl⟩
    obtain ⟨ws, hws⟩ : ∃ ws, (vs.drop (i * 3)).take 3 = ws := ⟨_, rfl⟩
    rw [hrs] at hA hH ⊢
    rw [hws] at hA hcv
    obtain ⟨x0, r0, rfl, T0, hH0⟩ := hH.cons
    obtain ⟨x1, r1, rfl, T1, hH1⟩ := hH0.cons
    obtain ⟨x2, r2, rfl, T2, hH2⟩ := hH1.cons
    obtain rfl := hH2.nil
    obtain ⟨v0, vr0, rfl, A0, hA0⟩ := hA.consE
    obtain ⟨v1, vr1, rfl, A1, hA1⟩ := hA0.consE
    obtain ⟨v2, vr2, rfl, A2, hA2⟩ := hA1.consE
    obtain rfl := hA2.nilE
    obtain ⟨y0, rfl⟩ := T0.str
    obtain rfl := A0.str
    obtain ⟨m1, ds1, rfl, -⟩ := T1.list
    obtain ⟨ai, ci, rfl, hia, hn2, hnc⟩ := ints_of A1 T1
    obtain ⟨y2, rfl⟩ := T2.bool
    obtain rfl := A2.bool
    exact ⟨hcv 0 (by omega), ⟨ai, _, ci, (by have := hcv 1 (by omega); rw [Nat.add_assoc]; exact this), hnc, hn2, hia⟩, by have := hcv 2 (by omega); rw [Nat.add_assoc]; exact this⟩
theorem sch_of {w : World} {us : List Value} {cs : List Cel} (h : AtL true w us cs) (hs : HasL cs tySchema) : ∃ a1 n1 c1 a2 n2 c2 a3 n3 c3, us = [.slice a1 n1 c1, .slice a2 n2 c2, .slice a3 n3 c3] ∧ SchAt w a1 n1 c1 a2 n2 c2 a3 n3 c3 (schD cs) := by
  obtain ⟨x0, r0, rfl, T0, hH0⟩ := hs.cons
  obtain ⟨x1, r1, rfl, T1, hH1⟩ := hH0.cons
  obtain ⟨x2, r2, rfl, T2, hH2⟩ := hH1.cons
  obtain rfl := hH2.nil
  obtain ⟨v0, vr0, rfl, A0, hA0⟩ := h.consE
  obtain ⟨v1, vr1, rfl, A1, hA1⟩ := hA0.consE
  obtain ⟨v2, vr2, rfl, A2, hA2⟩ := hA1.consE
  obtain rfl := hA2.nilE
  obtain ⟨n0, l0, rfl, _⟩ := T0.list
  obtain ⟨n1, l1, rfl, _⟩ := T1.list
  obtain ⟨n2, l2, rfl, _⟩ := T2.list
  obtain ⟨a0, c0, rfl, g0, q0⟩ := cols_of A0 T0
  obtain ⟨a1, c1, rfl, g1, p1, q1⟩ := ints_of A1 T1
  obtain ⟨a2, c2, rfl, g2, q2⟩ := idxs_of A2 T2
  exact ⟨a0, n0, c0, a1, n1, c1, a2, n2, c2, rfl, ⟨g0, g1, g2, q0, q1, q2, p1⟩⟩
structure SchSz (S : SchD) : Prop where
  cols : ∀ x ∈ S.cols, x.1.size ≤ 1048576
  idx : ∀ x ∈ S.idx, x.1.size ≤ 1048576
theorem text_big (c : Cel) : (textC c).size ≤ c.big := by
  cases c with
  | s x => exact Nat.le_of_eq (by simp [textC, Cel.big])
  | _ => exact Nat.zero_le _
theorem nth_bigL (cs : List Cel) (i : Nat) : (nthC cs i).big ≤ bigL cs := by
  unfold nthC
  rcases Nat.lt_or_ge i cs.length with hi | hi
  · rw [List.getD_eq_getElem?_getD, List.getElem?_eq_getElem hi, Option.getD_some]
    exact big_mem (List.getElem?_eq_getElem hi)
  · rw [List.getD_eq_getElem?_getD, List.getElem?_eq_none hi]
    simp [Cel.big]
theorem row_text (cs : List Cel) (i : Nat) : (textC (nthC (row cs 3 i) 0)).size ≤ bigL cs := by
  refine Nat.le_trans (text_big _) ?_
  unfold nthC row
  rw [List.getD_eq_getElem?_getD]
  rcases hc : ((cs.drop (i * 3)).take 3)[0]? with _ | c
  · simp [Cel.big]
  · rw [List.getElem?_take_of_lt (by omega), List.getElem?_drop] at hc
    exact big_mem hc
theorem list_bigL (c : Cel) : bigL (listC c) ≤ c.big := by
  cases c with
  | l T k n cs => show bigL cs ≤ n + bigL cs; omega
  | _ => simp [listC, bigL]
theorem sch_cols {cs : List Cel} : ∀ x ∈ (schD cs).cols, x.1.size ≤ bigL cs := by
  intro x hx
  obtain ⟨i, _, rfl⟩ := List.mem_map.1 hx
  exact Nat.le_trans (row_text _ i) (Nat.le_trans (list_bigL _) (nth_bigL cs 0))
theorem sch_idx {cs : List Cel} : ∀ x ∈ (schD cs).idx, x.1.size ≤ bigL cs := by
  intro x hx
  obtain ⟨i, _, rfl⟩ := List.mem_map.1 hx
  exact Nat.le_trans (row_text _ i) (Nat.le_trans (list_bigL _) (nth_bigL cs 2))
inductive Flat (P : Program) : TypeId → List Ty → Prop
  | i (t : TypeId) (h : P.underlying t = some (.int .i64)) : Flat P t [.i]
  | b (t : TypeId) (h : P.underlying t = some .bool) : Flat P t [.b]
  | s (t : TypeId) (h : P.underlying t = some .string) : Flat P t [.s]
  | l (t e T : TypeId) (k : Nat) (fs : List Ty) (h : P.underlying t = some (.slice e)) (hk : fs.length = k) (hk0 : 0 < k) (hc : P.cellsOf e = k) (hf : Flat P e fs) : Flat P t [.l T k fs]
  | st (t : TypeId) (Fs : Array Field) (gs : List (List Ty)) (h : P.underlying t = some (.struct Fs)) (hl : gs.length = Fs.size) (hc : P.cellsOf t = gs.flatten.length)
      (ho : ∀ (i : Nat) (f : Field) (g : List Ty), Fs[i]? = some f → gs[i]? = some g → f.offset = (gs.take i).flatten.length ∧ P.cellsOf f.type = g.length) (hf : ∀ (i : Nat) (f : Field) (g : List Ty), Fs[i]? = some f → gs[i]? = some g → Flat P f.type g) : Flat P t gs.flatten
theorem InL.app {w : World} : ∀ {vs : List Value} {cs : List Cel} {vs' : List Value} {cs' : List Cel}, InL w vs cs → InL w vs' cs' → InL w (vs ++ vs') (cs ++ cs')
  | vs, [], _, _, h, h' => by obtain rfl := h.nilE; exact h'
  | vs, c :: cs, _, _, h, h' => by
    obtain ⟨v, vs, rfl, h0, h1⟩ := h.consE
    exact InL.cons h0 (InL.app h1 h')
theorem HasL.mk {c : Cel} {t : Ty} {cs : List Cel} {fs : List Ty} (h : Has c t) (hs : HasL cs fs) : HasL (c :: cs) (t :: fs) := by
  refine ⟨by simp [hs.1], fun j c' t' hc ht => ?_⟩
  cases j with
  | zero => simp at hc ht; subst hc ht; exact h
  | succ j => simp at hc ht; exact hs.2 j c' t' hc ht
theorem HasL.none : HasL [] [] := ⟨rfl, fun j c t hc _ => by simp at hc⟩
theorem HasL.app : ∀ {cs : List Cel} {fs : List Ty} {cs' : List Cel} {fs' : List Ty}, HasL cs fs → HasL cs' fs' → HasL (cs ++ cs') (fs ++ fs')
  | cs, [], _, _, h, h' => by obtain rfl := h.nil; exact h'
  | cs, t :: fs, _, _, h, h' => by
    obtain ⟨c, cs, rfl, h0, h1⟩ := h.cons
    exact HasL.mk h0 (HasL.app h1 h')
inductive WfC : Cel → Prop
  | i (x : Int) (h : (Lit.int .i64 x).wf = true) : WfC (.i x)
  | b (x : Bool) : WfC (.b x)
  | s (x : ByteArray) : WfC (.s x)
  | l (T : TypeId) (k n : Nat) (cs : List Cel) (h : ∀ (j : Nat) (c : Cel), cs[j]? = some c → WfC c) : WfC (.l T k n cs)
def WfL (ds : List Cel) : Prop := ∀ (j : Nat) (c : Cel), ds[j]? = some c → WfC c
theorem WfL.nil : WfL [] := fun j c h => by simp at h
theorem WfL.cons {c : Cel} {ds : List Cel} (h : WfC c) (hs : WfL ds) : WfL (c :: ds) := fun j d hd => by
  cases j with
  | zero => simp at hd; subst hd; exact h
  | succ j => exact hs j d (by simpa using hd)
theorem WfL.app {ds es : List Cel} (h : WfL ds) (h' : WfL es) : WfL (ds ++ es) := fun j c hc => by
  by_cases hj : j < ds.length
  · rw [List.getElem?_append_left hj] at hc; exact h j c hc
  · rw [List.getElem?_append_right (by omega)] at hc; exact h' _ c hc
theorem parts_in {W : World} : ∀ (gs : List (List Ty)) (cs : List Value), cs.length = gs.flatten.length → (∀ (i : Nat) (g : List Ty), gs[i]? = some g → ∃ d, InL W ((cs.drop (gs.take i).flatten.length).take g.length) d ∧ HasL d g ∧ WfL d) → ∃ ds, InL W cs ds ∧ HasL ds gs.flatten ∧ WfL ds
  | [], cs, hl, _ => by
    obtain rfl : cs = [] := List.length_eq_zero_iff.1 (by simpa using hl)
    exact ⟨[], InL.nil, HasL.none, WfL.nil⟩
  | g :: gs, cs, hl, h => by
    simp only [List.flatten_cons, List.length_append] at hl
    obtain ⟨d, h1, h2, h3⟩ := h 0 g rfl
    obtain ⟨ds, g1, g2, g3⟩ := parts_in gs (cs.drop g.length) (by rw [List.length_drop]; omega) (fun i g' hg => by
      have := h (i + 1) g' (by simpa using hg)
      simpa [List.drop_drop] using this)
    refine ⟨d ++ ds, ?_, ?_, h3.app g3⟩
    · have := InL.app h1 g1
      simpa using this
    · simpa using HasL.app h2 g2
theorem flat_len {α : Type} {f : Nat → List α} {k : Nat} : ∀ (n : Nat), (∀ i, i < n → (f i).length = k) → ((List.range n).flatMap f).length = n * k
  | 0, _ => by simp
  | n + 1, h => by
    rw [List.range_succ, List.flatMap_append, List.length_append, flat_len n (fun i hi => h i (by omega))]
    simp [h n (by omega), Nat.succ_mul]
theorem flat_at {α : Type} {f : Nat → List α} {k : Nat} : ∀ (n : Nat), (∀ i, i < n → (f i).length = k) → ∀ i r, i < n → r < k → ((List.range n).flatMap f)[i * k + r]? = (f i)[r]?
  | 0, _, i, _, hi, _ => by omega
  | n + 1, h, i, r, hi, hr => by
    have hl := flat_len n (fun i hi => h i (by omega)) (f := f)
    rw [List.range_succ, List.flatMap_append]
    by_cases hin : i < n
    · have hle : i * k + k ≤ n * k := by rw [← Nat.succ_mul]; exact Nat.mul_le_mul_right k hin
      rw [List.getElem?_append_left (by omega)]
      exact flat_at n (fun i hi => h i (by omega)) i r hin hr
    · obtain rfl : i = n := by omega
      rw [List.getElem?_append_right (by omega), hl, Nat.add_sub_cancel_left]
      simp
theorem spot_none {w : World} {a : Addr} {v : Value} (h : w.cell? a = some v) : a.spot = none := by
  unfold World.cell? at h
  split at h
  · split at h
    · cases h
    · rename_i hs
      cases e : a.spot with
      | none => rfl
      | some x => rw [e] at hs; exact absurd rfl hs
  · cases h
theorem open_flat {H : Type} {enc : TypeId × Value → H} {P : Program} {W : World} {base : Nat} {held : Bool} {t : TypeId} {fs : List Ty} (hf : Flat P t fs) : ∀ {fuel : Nat} {cs : List Value} {x : DataW H × List MemPlace}, DataW.trod enc P W base (fun _ => true) held fuel t cs = some x → ∃ ds, InL W cs ds ∧ HasL ds fs ∧ WfL ds := by
  induction hf with
  | i t h =>
    intro fuel cs x hx
    obtain ⟨z, rfl, _, hz⟩ := DataW.trod_int h hx
    exact ⟨[.i z], InL.cons (.i z) InL.nil, HasL.mk (.i z) HasL.none, WfL.cons (.i z hz) WfL.nil⟩
  | b t h =>
    intro fuel cs x hx
    obtain ⟨z, rfl, _⟩ := DataW.trod_bool h hx
    exact ⟨[.b z], InL.cons (.b z) InL.nil, HasL.mk (.b z) HasL.none, WfL.cons (.b z) WfL.nil⟩
  | s t h =>
    intro fuel cs x hx
    obtain ⟨z, rfl, _, hz⟩ := DataW.trod_string h hx
    exact ⟨[.s z], InL.cons (.s z (by unfold maxLen at hz; omega)) InL.nil, HasL.mk (.s z) HasL.none, WfL.cons (.s z) WfL.nil⟩
  | l t e T k fs h hk hk0 hc hf ih =>
    intro fuel cs x hx
    rcases Go.Deep.open_slice h hx with ⟨rfl, _⟩ | ⟨a, len, cap, m, fu, D, Pl, rfl, hb, hl, hm, hmm, _, hx⟩
    · exact ⟨[.l T k 0 []], InL.cons (.l none T k 0 0 [] [] (by simp) (by simp) (by omega) (.inl rfl) (fun j v c hv _ => by simp at hv)) InL.nil, HasL.mk (.l T k 0 [] fs hk (by simp) (fun j c t hc _ => by simp at hc)) HasL.none, WfL.cons (.l T k 0 [] (fun j c h => by simp at h)) WfL.nil⟩
    · have hlm : len ≤ m := by rw [hmm]; split <;> omega
      have each : ∀ i, i < len → ∃ z : List Value × List Cel, z.1.length = k ∧ (∀ r, r < k → W.cell? (a.add (i * k + r)) = z.1[r]?) ∧ InL W z.1 z.2 ∧ HasL z.2 fs ∧ WfL z.2 := by
        intro i hi
        obtain ⟨cs', h1, h2⟩ := hx i (by omega)
        rw [hc] at h1
        obtain ⟨_, hlen, hcell⟩ := World.cells?_some h1
        obtain ⟨ds, g1, g2, g3⟩ := ih h2
        refine ⟨(cs', ds), hlen, fun r hr => ?_, g1, g2, g3⟩
        have := hcell r (by omega)
        rw [Go.Deep.add_add] at this
        rw [this, List.getElem?_eq_getElem (by omega)]
      obtain ⟨z, hz⟩ := Go.Deep.choose_lt each
      have l1 : ∀ i, i < len → (z i).1.length = k := fun i hi => (hz i hi).1
      have l2 : ∀ i, i < len → (z i).2.length = k := fun i hi => by rw [(hz i hi).2.2.2.1.1, hk]
      refine ⟨[.l T k len ((List.range len).flatMap fun i => (z i).2)], InL.cons (.l (some a) T k len cap _ ((List.range len).flatMap fun i => (z i).1) (flat_len len l1) (flat_len len l2) (by unfold maxLen at hm; omega) ?_ (fun j v c hv hc => ?_)) InL.nil, HasL.mk (.l T k len _ fs hk (flat_len len l2) (fun j c t hc ht => ?_)) HasL.none, WfL.cons (.l T k len _ (fun j c hc => ?_)) WfL.nil⟩
      · by_cases h0 : len = 0
        · exact .inl h0
        · have hc0 := (hz 0 (by omega)).2.1 0 (by omega)
          rw [List.getElem?_eq_getElem (by rw [l1 0 (by omega)]; omega)] at hc0
          have hs := spot_none hc0
          obtain ⟨bl, off, sp⟩ := a
          have hs : sp = none := by simpa [Addr.add] using hs
          subst hs
          refine .inr ⟨bl, off, rfl, fun j hj => ?_⟩
          have hjd : j = (j / k) * k + j % k := by rw [Nat.mul_comm]; exact (Nat.div_add_mod j k).symm
          have hd : j / k < len := Nat.div_lt_of_lt_mul (by rwa [Nat.mul_comm])
          have hm' : j % k < k := Nat.mod_lt _ (by omega)
          have := (hz (j / k) hd).2.1 (j % k) hm'
          rw [← hjd] at this
          rw [show (⟨bl, off, none⟩ : Addr).add j = ⟨bl, off + j, none⟩ by simp [Addr.add]] at this
          rw [this]
          conv => rhs; rw [hjd]
          exact (flat_at len l1 _ _ hd hm').symm
      · have hj : j < len * k := by have := (List.getElem?_eq_some_iff.1 hv).1; rwa [flat_len len l1] at this
        have hjd : j = (j / k) * k + j % k := by rw [Nat.mul_comm]; exact (Nat.div_add_mod j k).symm
        have hd : j / k < len := Nat.div_lt_of_lt_mul (by rwa [Nat.mul_comm])
        have hm' : j % k < k := Nat.mod_lt _ hk0
        rw [hjd, flat_at len l1 _ _ hd hm'] at hv
        rw [hjd, flat_at len l2 _ _ hd hm'] at hc
        exact (hz (j / k) hd).2.2.1.2 _ v c hv hc
      · have hj : j < len * k := by have := (List.getElem?_eq_some_iff.1 hc).1; rwa [flat_len len l2] at this
        have hjd : j = (j / k) * k + j % k := by rw [Nat.mul_comm]; exact (Nat.div_add_mod j k).symm
        have hd : j / k < len := Nat.div_lt_of_lt_mul (by rwa [Nat.mul_comm])
        have hm' : j % k < k := Nat.mod_lt _ hk0
        rw [hjd, flat_at len l2 _ _ hd hm'] at hc
        exact (hz (j / k) hd).2.2.2.1.2 _ c t hc ht
      · have hj : j < len * k := by have := (List.getElem?_eq_some_iff.1 hc).1; rwa [flat_len len l2] at this
        have hjd : j = (j / k) * k + j % k := by rw [Nat.mul_comm]; exact (Nat.div_add_mod j k).symm
        have hd : j / k < len := Nat.div_lt_of_lt_mul (by rwa [Nat.mul_comm])
        have hm' : j % k < k := Nat.mod_lt _ hk0
        rw [hjd, flat_at len l2 _ _ hd hm'] at hc
        exact (hz (j / k) hd).2.2.2.2 _ c hc
  | st t Fs gs h hl hc ho hf ih =>
    intro fuel cs x hx
    obtain ⟨xs, n, _, _, hlen, hxl, hxf⟩ := DataW.trod_struct h hx
    refine parts_in gs cs (by omega) fun i g hg => ?_
    have hi : i < Fs.size := by have := (List.getElem?_eq_some_iff.1 hg).1; omega
    have hF : Fs[i]? = some Fs[i] := Array.getElem?_eq_getElem hi
    have h1 := hxf i _ hF
    rw [(ho i _ g hF hg).1, (ho i _ g hF hg).2, List.getElem?_eq_getElem (by omega)] at h1
    exact ih i _ g hF hg h1
theorem open_st {H : Type} {enc : TypeId × Value → H} {P : Program} {W : World} {base b0 : Nat} {held : Bool} {t : TypeId} {Fs : Array Field} {fs : List Ty} {v : Value} {d : DataW H} {p : List MemPlace} (hu : P.underlying t = some (.struct Fs)) (hf : Flat P t fs)
    (hv : Value.okWide P W .any b0 t v) (h : DataW.Trod enc P W base (fun _ => true) held t v d p) : ∃ vs ds, v = .agg vs.toArray ∧ InL W vs ds ∧ HasL ds fs ∧ WfL ds := by
  obtain ⟨cs, rfl, _⟩ := okWide_struct hu hv
  obtain ⟨fuel, hx⟩ := h
  obtain ⟨ds, h1, h2, h3⟩ := open_flat hf hx
  exact ⟨cs.toList, ds, by simp, by simpa [Value.cells] using h1, h2, h3⟩
theorem cnt_all {cs : List Cel} (h : ∀ c ∈ cs, ∃ x, c = .i x) : cntL cs = cs.length ∧ bigL cs = 0 := by
  induction cs with
  | nil => exact ⟨rfl, rfl⟩
  | cons c cs ih =>
    obtain ⟨x, rfl⟩ := h c (by simp)
    obtain ⟨h1, h2⟩ := ih fun d hd => h d (by simp [hd])
    exact ⟨by rw [cntL, h1]; simp [Cel.cnt]; omega, by rw [bigL, h2]; rfl⟩
theorem cnt_ints {n : Nat} {cs : List Cel} (hs : Has (.l 3 1 n cs) (.l 3 1 [.i])) : cntL cs = n ∧ bigL cs = 0 := by
  cases hs with
  | l _ _ _ _ _ hk hl hh =>
    have h1 := cnt_all (cs := cs) fun c hc => by
      obtain ⟨j, hj, rfl⟩ := List.getElem_of_mem hc
      exact (hh j _ _ (List.getElem?_eq_getElem hj) (show ([.i] : List Ty)[j % 1]? = some .i by rw [Nat.mod_one]; rfl)).int
    exact ⟨by omega, h1.2⟩
structure Kept (S : Nat → Prop) (w w' : World) : Prop where
  on : Below 0 w w'
  oth : ∀ x, x < w.heap.size → ¬ S x → w'.heap[x]? = w.heap[x]?
theorem Kept.refl (S : Nat → Prop) (w : World) : Kept S w w := ⟨Below.refl _ _, fun _ _ _ => rfl⟩
theorem Kept.trans {S : Nat → Prop} {w w1 w2 : World} (h : Kept S w w1) (h' : Kept S w1 w2) : Kept S w w2 :=
  ⟨h.on.trans h'.on, fun x hx hS => (h'.oth x (Nat.lt_of_lt_of_le hx h.on.size) hS).trans (h.oth x hx hS)⟩
theorem Kept.mono {S S' : Nat → Prop} {w w' : World} (h : Kept S w w') (hS : ∀ x, S x → S' x) : Kept S' w w' := ⟨h.on, fun x hx hn => h.oth x hx fun hs => hn (hS x hs)⟩
theorem Kept.set {S : Nat → Prop} {w w' : World} (h : Kept S w w') {g i : Nat} (hg : S g) (v : Value) : Kept S w (w'.setCell ⟨g, i, none⟩ v) :=
  ⟨h.on.setCell (Nat.zero_le _) v, fun x hx hn => (Below.heap_setCell _ _ _ _ (fun e => by
    have e : x = g := e
    exact hn (by rw [e]; exact hg))).trans (h.oth x hx hn)⟩
theorem Kept.grow {S : Nat → Prop} {w w' w2 : World} (h : Kept S w w') (hb : Below w'.heap.size w' w2) : Kept S w w2 :=
  ⟨h.on.trans (hb.mono (Nat.zero_le _)), fun x hx hn => (hb.block x (Nat.lt_of_lt_of_le hx h.on.size)).trans (h.oth x hx hn)⟩
theorem Kept.below {S : Nat → Prop} {w w' : World} (h : Kept S w w') {B : Nat} (hS : ∀ x, S x → B ≤ x) (hB : B ≤ w.heap.size) : Below B w w' :=
  ⟨h.on.os, h.on.tape, h.on.output, h.on.size, fun k hk => h.oth k (by omega) fun hs => by have := hS k hs; omega⟩
theorem cell_ne (w : World) {g i j : Nat} (h : i ≠ j) (u : Value) : (w.setCell ⟨g, i, none⟩ u).cell? ⟨g, j, none⟩ = w.cell? ⟨g, j, none⟩ := World.cell?_setCell_other _ _ _ _ (fun e => by simp only [Addr.mk.injEq] at e; omega)
theorem Own.lensL {w : World} {base : Nat} {g n cap : Nat} {T : TypeId} {k : Nat} {cs : List Cel} {S : Nat → Prop} (h : Own w base (.slice (some ⟨g, 0, none⟩) n cap) (.l T k n cs) S) {j : Nat} {c : Cel} (hc : cs[j]? = some c) :
    ∃ v Sj, w.cell? ⟨g, j, none⟩ = some v ∧ Own w base v c Sj ∧ (∀ x, Sj x → S x) ∧ ∀ w' c', Own w' base v c' Sj → (∀ x, S x → ¬ Sj x → w'.heap[x]? = w.heap[x]?) → Own w' base (.slice (some ⟨g, 0, none⟩) n cap) (.l T k n (cs.set j c')) S := by
  cases h with
  | l g cap T k n cs vs S Ss h1 h2 hn h4 h5 h6 h7 =>
    have hj : j < cs.length := (List.getElem?_eq_some_iff.1 hc).1
    have hl := h1.1
    have hv : vs[j]? = some (vs[j]'(by omega)) := List.getElem?_eq_getElem (by omega)
    have sub : ∀ i x, i < n * k → Ss i x → S x := fun i x hi hx => (h7 x).2 (.inr ⟨i, hi, hx⟩)
    refine ⟨_, Ss j, own_cellV h1 hv, h4 j _ _ hv hc, fun x => sub j x (by omega), fun w' c' ho he => ?_⟩
    refine .l g cap T k n _ vs S Ss (owns_heap h1 fun x hx => ?_) (by simpa using h2) hn (fun i v d hvi hdi => ?_) h5 h6 h7
    · cases hx
      exact he g ((h7 g).2 (.inl rfl)) (h5 j)
    · by_cases hij : j = i
      · subst hij
        rw [List.getElem?_set_self hj] at hdi
        cases hdi
        rw [hv] at hvi
        cases hvi
        exact ho
      · rw [List.getElem?_set_ne hij] at hdi
        have hi : i < n * k := by have := (List.getElem?_eq_some_iff.1 hvi).1; omega
        exact (h4 i v d hvi hdi).heap fun x hx => he x (sub i x hi hx) (h6 i j x (Ne.symm hij) hx)
theorem Own.put {w : World} {base : Nat} {g n cap : Nat} {T : TypeId} {k : Nat} {cs : List Cel} {S : Nat → Prop} (h : Own w base (.slice (some ⟨g, 0, none⟩) n cap) (.l T k n cs) S) {j : Nat} {c c' : Cel} (hc : cs[j]? = some c) (h0 : ∀ v Sj, Own w base v c Sj → ∀ x, ¬ Sj x) {u : Value} (hu : ∀ w' Sj, (∀ x, ¬ Sj x) → Own w' base u c' Sj) :
    Own (w.setCell ⟨g, j, none⟩ u) base (.slice (some ⟨g, 0, none⟩) n cap) (.l T k n (cs.set j c')) S := by
  cases h with
  | l g cap T k n cs vs S Ss h1 h2 hn h4 h5 h6 h7 =>
    have hj : j < cs.length := (List.getElem?_eq_some_iff.1 hc).1
    have hl := h1.1
    have hv : vs[j]? = some (vs[j]'(by omega)) := List.getElem?_eq_getElem (by omega)
    have hz := h0 _ _ (h4 j _ _ hv hc)
    refine .l g cap T k n _ (vs.set j u) S Ss (h1.stored j u).1 (by simpa using h2) hn (fun i v d hvi hdi => ?_) h5 h6 h7
    by_cases hij : j = i
    · subst hij
      rw [List.getElem?_set_self (by omega)] at hvi hdi
      cases hvi
      cases hdi
      exact hu _ _ hz
    · rw [List.getElem?_set_ne hij] at hvi hdi
      exact (h4 i v d hvi hdi).heap fun x hx => Below.heap_setCell _ _ _ _ (fun e => h5 i (by have e : x = g := e; rw [← e]; exact hx))
theorem own_i {w : World} {base : Nat} {y : Int} (v : Value) (Sj : Nat → Prop) (h : Own w base v (.i y) Sj) : ∀ x, ¬ Sj x := by cases h; assumption
theorem own_b {w : World} {base : Nat} {y : Bool} (v : Value) (Sj : Nat → Prop) (h : Own w base v (.b y) Sj) : ∀ x, ¬ Sj x := by cases h; assumption
theorem Own.putI {w : World} {base : Nat} {g n cap : Nat} {T : TypeId} {k : Nat} {cs : List Cel} {S : Nat → Prop} (h : Own w base (.slice (some ⟨g, 0, none⟩) n cap) (.l T k n cs) S) {j : Nat} {y : Int} (hc : cs[j]? = some (.i y)) (z : Int) :
    Own (w.setCell ⟨g, j, none⟩ (.int .i64 z)) base (.slice (some ⟨g, 0, none⟩) n cap) (.l T k n (cs.set j (.i z))) S := h.put hc own_i fun _ _ hS => .i z _ hS
theorem Own.putB {w : World} {base : Nat} {g n cap : Nat} {T : TypeId} {k : Nat} {cs : List Cel} {S : Nat → Prop} (h : Own w base (.slice (some ⟨g, 0, none⟩) n cap) (.l T k n cs) S) {j : Nat} {y : Bool} (hc : cs[j]? = some (.b y)) (z : Bool) :
    Own (w.setCell ⟨g, j, none⟩ (.bool z)) base (.slice (some ⟨g, 0, none⟩) n cap) (.l T k n (cs.set j (.b z))) S := h.put hc own_b fun _ _ hS => .b z _ hS
def Marked (tx : Int → ByteArray) (w : World) (base : Nat) (v : Value) (c : Cel) (S : Nat → Prop) (q : Int) (e : Ending) (w' : World) : Prop := e = .returned (.int .i64 (q + (c.cnt : Int))) ∧ Own w' base v (c.mark tx q) S ∧ Kept S w w'
theorem over_mid : ∀ (C A B : List Cel), C.length ≤ B.length → over (A ++ B) A.length C = A ++ C ++ B.drop C.length
  | [], A, B, _ => by simp [over]
  | c :: C, A, B, h => by
    match B, h with
    | [], h => simp at h
    | b :: B, h =>
      simp only [over]
      have e : (A ++ b :: B).set A.length c = (A ++ [c]) ++ B := by simp
      rw [e]
      have := over_mid C (A ++ [c]) B (by simpa using h)
      rw [List.length_append] at this
      simp only [List.length_singleton] at this
      rw [this]
      simp
theorem mark_row (tx : Int → ByteArray) {cs : List Cel} {k n j : Nat} (hl : cs.length = n * k) (hj : j < n) (q : Int) :
    over (markL tx (cs.take (j * k)) q ++ cs.drop (j * k)) (j * k) (markL tx (row cs k j) (q + (cntL (cs.take (j * k)) : Int))) = markL tx (cs.take ((j + 1) * k)) q ++ cs.drop ((j + 1) * k) := by
  have hle : j * k + k ≤ n * k := by rw [← Nat.succ_mul]; exact Nat.mul_le_mul_right k hj
  have hA : (markL tx (cs.take (j * k)) q).length = j * k := by rw [markL_len, List.length_take]; omega
  have := over_mid (markL tx (row cs k j) (q + (cntL (cs.take (j * k)) : Int))) (markL tx (cs.take (j * k)) q) (cs.drop (j * k)) (by rw [markL_len, rowL_len hl hj, List.length_drop]; omega)
  rw [hA] at this
  rw [this, markL_len, rowL_len hl hj, List.drop_drop, ← Nat.succ_mul, row_split, markL_append]
theorem mark_at (tx : Int → ByteArray) {cs : List Cel} {p i : Nat} (hp : p ≤ cs.length) (q : Int) : (markL tx (cs.take p) q ++ cs.drop p)[p + i]? = cs[p + i]? := by
  have hA : (markL tx (cs.take p) q).length = p := by rw [markL_len, List.length_take]; omega
  rw [List.getElem?_append_right (by omega), hA, List.getElem?_drop]
  congr 1; omega
theorem cnt_split {cs : List Cel} {k j : Nat} : cntL (cs.take ((j + 1) * k)) = cntL (cs.take (j * k)) + cntL (row cs k j) := by rw [row_split, cntL_append]
theorem cnt_le {cs : List Cel} {p : Nat} : cntL (cs.take p) ≤ cntL cs := by
  have := cntL_append (cs.take p) (cs.drop p)
  rw [List.take_append_drop] at this
  omega
def SaysD (w : World) (x : Int) (e : Ending) (w' : World) : Prop := e = .returned (.int .i64 x) ∧ Below w.heap.size w w'
end
end Go.Proofs.Ytmgofehafjogfab
