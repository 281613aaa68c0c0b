/- Lists of Descs of the call's own: toDescS, eqDescS. -/
import Derived.Test.YtbdfopokimpeiaqDescs
import Derived.Test.YtbdfopokimpeiaqClone
namespace Go.Proofs.Ytbdfopokimpeiaq
open Go.ChangeShapes Go.WideShapes Go.ChangeAt Go.RowKit Go.Joins

/-- The i-th five of the list are a Desc whose lists lie at p and q. -/
def At5 (vs : List Value) (i : Nat) (d : DK) (p q : Nat) : Prop :=
  vs[i * 5]? = some (I d.sq) ∧ vs[i * 5 + 1]? = some (I d.st) ∧ vs[i * 5 + 2]? = some (.slice (some ⟨p, 0, none⟩) d.en d.en) ∧ vs[i * 5 + 3]? = some (I d.cd) ∧ vs[i * 5 + 4]? = some (.slice (some ⟨q, 0, none⟩) d.rn d.rn)
def set5 (vs : List Value) (k : Nat) (a b c e f : Value) : List Value := ((((vs.set (k * 5) a).set (k * 5 + 1) b).set (k * 5 + 2) c).set (k * 5 + 3) e).set (k * 5 + 4) f
theorem set5_other {vs : List Value} {k j : Nat} (h : j < k * 5 ∨ k * 5 + 4 < j) (a b c e f : Value) : (set5 vs k a b c e f)[j]? = vs[j]? := by
  unfold set5
  rw [List.getElem?_set_ne (by omega), List.getElem?_set_ne (by omega), List.getElem?_set_ne (by omega), List.getElem?_set_ne (by omega), List.getElem?_set_ne (by omega)]
theorem At5.set5 {vs : List Value} {i k : Nat} {d : DK} {p q : Nat} (h : At5 vs i d p q) (hik : i ≠ k) (a b c e f : Value) : At5 (set5 vs k a b c e f) i d p q := by
  obtain ⟨h0, h1, h2, h3, h4⟩ := h
  unfold At5
  rw [set5_other (by omega), set5_other (by omega), set5_other (by omega), set5_other (by omega), set5_other (by omega)]
  exact ⟨h0, h1, h2, h3, h4⟩
theorem at5_self {vs : List Value} {k : Nat} {d : DK} {p q : Nat} (h : k * 5 + 4 < vs.length) : At5 (Go.Proofs.Ytbdfopokimpeiaq.set5 vs k (I d.sq) (I d.st) (.slice (some ⟨p, 0, none⟩) d.en d.en) (I d.cd) (.slice (some ⟨q, 0, none⟩) d.rn d.rn)) k d p q := by
  unfold At5 Go.Proofs.Ytbdfopokimpeiaq.set5
  refine ⟨?_, ?_, ?_, ?_, ?_⟩
  · rw [List.getElem?_set_ne (by omega), List.getElem?_set_ne (by omega), List.getElem?_set_ne (by omega), List.getElem?_set_ne (by omega), List.getElem?_set_self (by omega)]
  · rw [List.getElem?_set_ne (by omega), List.getElem?_set_ne (by omega), List.getElem?_set_ne (by omega), List.getElem?_set_self (by simp; omega)]
  · rw [List.getElem?_set_ne (by omega), List.getElem?_set_ne (by omega), List.getElem?_set_self (by simp; omega)]
  · rw [List.getElem?_set_ne (by omega), List.getElem?_set_self (by simp; omega)]
  · rw [List.getElem?_set_self (by simp; omega)]
abbrev SL (g n : Nat) : Value := .slice (some ⟨g, 0, none⟩) n n
/-- What is known of the i-th Desc of a list of the call's own. -/
structure Own5 (w : World) (g : Nat) (vs : List Value) (d : DK) (i p q : Nat) : Prop where
  at5 : At5 vs i d p q
  gp : g < p
  pq : p < q
  ents : w.ownsRow p 84 3 (SL p d.en) d.en (d.es.map I)
  ints : w.ownsRow q 3 1 (SL q d.rn) d.rn (d.rs.map I)
/-- A list of Descs of the call's own, the first k of them laid. -/
def DescOwn (w : World) (g n : Nat) (ds : List DK) (k : Nat) : Prop :=
  ∃ (vs : List Value) (P Q : Nat → Nat), w.ownsRow g 82 5 (SL g n) n vs ∧ ∀ i, i < k → Own5 w g vs (dk ds i) i (P i) (Q i) ∧ ∀ j, j < i → Q j < P i
theorem Own5.below {w w' : World} {g : Nat} {vs : List Value} {d : DK} {i p q : Nat} (h : Own5 w g vs d i p q) {B : Nat} (hb : Below B w w') (hB : w.heap.size ≤ B) : Own5 w' g vs d i p q :=
  ⟨h.at5, h.gp, h.pq, owns_below h.ents hb hB, owns_below h.ints hb hB⟩
theorem DescOwn.below {w w' : World} {g n k : Nat} {ds : List DK} (h : DescOwn w g n ds k) {B : Nat} (hb : Below B w w') (hB : w.heap.size ≤ B) : DescOwn w' g n ds k := by
  obtain ⟨vs, P, Q, h1, h2⟩ := h
  exact ⟨vs, P, Q, owns_below h1 hb hB, fun i hi => ⟨(h2 i hi).1.below hb hB, (h2 i hi).2⟩⟩
theorem own_cellV {w : World} {base : Nat} {e : TypeId} {g n cap size j : Nat} {vs : List Value} {u : Value} (h : w.ownsRow base e size (.slice (some ⟨g, 0, none⟩) n cap) n vs) (hj : vs[j]? = some u) : w.cell? ⟨g, j, none⟩ = some u := by
  have hl : j < vs.length := (List.getElem?_eq_some_iff.1 hj).1
  rw [h.cellAt j (by rw [← h.1]; exact hl)]
  exact hj
theorem DescOwn.at {w : World} {g n : Nat} {ds : List DK} (h : DescOwn w g n ds n) (hl : ds.length = n) (hn : n ≤ 1048576) (hs : ∀ i, i < n → (dk ds i).en ≤ 1048576 ∧ (dk ds i).rn ≤ 1048576) : DescAt w (some ⟨g, 0, none⟩) n ds := by
  obtain ⟨vs, P, Q, h1, h2⟩ := h
  refine ⟨hl, hn, .inr ⟨g, 0, rfl, fun i hi => ?_⟩⟩
  obtain ⟨⟨⟨a0, a1, a2, a3, a4⟩, _, _, he, hi'⟩, _⟩ := h2 i hi
  refine ⟨some ⟨P i, 0, none⟩, (dk ds i).en, some ⟨Q i, 0, none⟩, (dk ds i).rn, ⟨?_, ?_, ?_, ?_, ?_⟩, own_tripAt he (hs i hi).1, own_intAt hi' (by have := (hs i hi).2; omega)⟩
  · rw [Nat.zero_add]; exact own_cellV h1 a0
  · rw [Nat.zero_add]; exact own_cellV h1 a1
  · rw [Nat.zero_add]; exact own_cellV h1 a2
  · rw [Nat.zero_add]; exact own_cellV h1 a3
  · rw [Nat.zero_add]; exact own_cellV h1 a4
theorem infoDesc : (Try.prog.info? 82).map (fun i => (i.zero, i.size, i.bytes)) = some (some (.agg (DescC 0 0 none 0 0 0 none 0 0)), 5, 72) := by kernel_rfl
theorem own_set5 {w : World} {g n : Nat} {vs : List Value} (h : w.ownsRow g 82 5 (SL g n) n vs) (k : Nat) (a b c e f : Value) :
    (((((w.setCell ⟨g, k * 5, none⟩ a).setCell ⟨g, k * 5 + 1, none⟩ b).setCell ⟨g, k * 5 + 2, none⟩ c).setCell ⟨g, k * 5 + 3, none⟩ e).setCell ⟨g, k * 5 + 4, none⟩ f).ownsRow g 82 5 (SL g n) n (set5 vs k a b c e f) :=
  ((((((h.stored _ a).1.stored _ b).1.stored _ c).1.stored _ e).1.stored _ f).1)
theorem Own5.far {w : World} {g : Nat} {vs : List Value} {d : DK} {i p q : Nat} (h : Own5 w g vs d i p q) (j : Nat) (u : Value) : Own5 (w.setCell ⟨g, j, none⟩ u) g vs d i p q :=
  ⟨h.at5, h.gp, h.pq, ownsRow_setCell_below h.ents h.gp _, ownsRow_setCell_below h.ints (Nat.lt_trans h.gp h.pq) _⟩
theorem Own5.vs {w : World} {g : Nat} {vs vs' : List Value} {d : DK} {i p q : Nat} (h : Own5 w g vs d i p q) (ha : At5 vs' i d p q) : Own5 w g vs' d i p q := ⟨ha, h.gp, h.pq, h.ents, h.ints⟩

set_option maxHeartbeats 2000000 in
theorem toDescS_any (a : Option Addr) (n c : Nat) (ds : List DK) (w : World) (h : DescAt w a n ds) :
    Calls Try.prog 12 #[.slice a n c] w fun e w' => e = .returned (SL w.heap.size n) ∧ DescOwn w' w.heap.size n ds n ∧ Below w.heap.size w w' := by
  have HH : Hid (DescAt w a n ds) := h
  have hn : n ≤ 1048576 := h.2.1
  clear h
  obtain ⟨i0, hi, hz0, hz1, hz2⟩ := info_parts infoDesc
  go_enter Try.func12, Try.ntmps12
  go_wp2_with (at_make; refine wpList_make_full _ rfl _ _ 29 rfl w.heap.size 82 i0 (.agg (DescC 0 0 none 0 0 0 none 0 0)) 5 Try.underlying29 hi hz0 hz1 .i64 .i64 _ _ n rfl rfl rfl rfl (by rw [hz2]; omega) (by unfold maxLen; omega) (Nat.le_refl _) ?_; intro w1 own1 grow1)
  have own0 : Hid (DescOwn w1 w.heap.size n ds 0) := ⟨_, fun _ => 0, fun _ => 0, own1, fun i hi => by omega⟩
  have hb1 : Below w.heap.size w w1 := (Below.refl _ _).grown grow1 (Nat.le_refl _) (fun k e => by cases e)
  clear own1 grow1
  go_loopw [4] (fun i wr => ∃ k : Nat, k ≤ n ∧ i = .int .i64 (k : Int) ∧ DescOwn wr w.heap.size n ds k ∧ Below w.heap.size w wr) (fun i _ => n - (intOf i).toNat)
  case atStart => exact ⟨0, Nat.zero_le _, rfl, own0.out, hb1⟩
  case round =>
    obtain ⟨k, hk, rfl, ho, hb⟩ := hrel
    have HO : Hid (DescOwn wr w.heap.size n ds k) := ho
    clear own0 hb1 ho
    by_cases hlt : k < n
    · rcases (HH.out.below hb (Nat.le_refl _)).2.2 with h0 | ⟨p1, o1, rfl, g1⟩
      · omega
      have hk0 : (0 : Int) ≤ (k : Int) := by omega
      have hk1 : (k : Int) < (n : Int) := by omega
      obtain ⟨ea, ec, ra, rc, ⟨f0, f1, f2, f3, f4⟩, h6, h7⟩ := g1 k hlt
      obtain ⟨D, hD⟩ : ∃ D, dk ds k = D := ⟨_, rfl⟩
      have HD : Hid (dk ds k = D) := hD
      rw [hD] at f0 f1 f2 f3 f4 h6 h7
      have H6 : Hid (TripAt wr ea D.en D.es) := h6
      have H7 : Hid (IntAt wr ra D.rn D.rs) := h7
      clear g1 hD h6 h7
      go_wp2_with fail
      refine (toDesc_any D.sq D.st ea D.en ec D.es D.cd ra D.rn rc D.rs _ H6.out H7.out).mono ?_
      rintro e w2 ⟨g2, h2, rfl, hg2, hh2, o2, q2, hb2⟩
      have hb02 : Below w.heap.size w w2 := hb.trans (hb2.mono hb.size)
      obtain ⟨vs, P, Q, ho1, hall⟩ := HO.out
      have hsz : w.heap.size < wr.heap.size := (ho1.lt w.heap.size rfl).2
      have ho2 := owns_below ho1 hb2 (Nat.le_refl _)
      have HALL : Hid (∀ i, i < k → Own5 w2 w.heap.size vs (dk ds i) i (P i) (Q i) ∧ (∀ j, j < i → Q j < P i) ∧ Q i < g2) := fun i hi => ⟨(hall i hi).1.below hb2 (Nat.le_refl _), (hall i hi).2, Nat.lt_of_lt_of_le ((hall i hi).1.ints.lt (Q i) rfl).2 hg2⟩
      have NEW : Hid (∀ vs', At5 vs' k D g2 h2 → Own5 w2 w.heap.size vs' D k g2 h2) := fun vs' h => ⟨h, by omega, hh2, o2, q2⟩
      have HS : Hid ((((((w2.setCell ⟨w.heap.size, k * 5, none⟩ (I D.sq)).setCell ⟨w.heap.size, k * 5 + 1, none⟩ (I D.st)).setCell ⟨w.heap.size, k * 5 + 2, none⟩ (SL g2 D.en)).setCell ⟨w.heap.size, k * 5 + 3, none⟩ (I D.cd)).setCell ⟨w.heap.size, k * 5 + 4, none⟩ (SL h2 D.rn)).ownsRow w.heap.size 82 5 (SL w.heap.size n) n (set5 vs k (I D.sq) (I D.st) (SL g2 D.en) (I D.cd) (SL h2 D.rn))) := own_set5 ho2 k _ _ _ _ _
      have hvl : vs.length = n * 5 := ho2.1
      have HVL : Hid (vs.length = n * 5) := hvl
      have z0 := ho2.frozenAt (k * 5)
      have z1 := ho2.frozenAt (k * 5 + 1)
      have z2 := ho2.frozenAt (k * 5 + 2)
      have z3 := ho2.frozenAt (k * 5 + 3)
      have z4 := ho2.frozenAt (k * 5 + 4)
      obtain ⟨u0, hu0⟩ : ∃ u, w2.cell? ⟨w.heap.size, k * 5, none⟩ = some u := ⟨_, own_cellV ho2 (List.getElem?_eq_getElem (by omega))⟩
      obtain ⟨u1, hu1⟩ : ∃ u, w2.cell? ⟨w.heap.size, k * 5 + 1, none⟩ = some u := ⟨_, own_cellV ho2 (List.getElem?_eq_getElem (by omega))⟩
      obtain ⟨u2, hu2⟩ : ∃ u, w2.cell? ⟨w.heap.size, k * 5 + 2, none⟩ = some u := ⟨_, own_cellV ho2 (List.getElem?_eq_getElem (by omega))⟩
      obtain ⟨u3, hu3⟩ : ∃ u, w2.cell? ⟨w.heap.size, k * 5 + 3, none⟩ = some u := ⟨_, own_cellV ho2 (List.getElem?_eq_getElem (by omega))⟩
      obtain ⟨u4, hu4⟩ : ∃ u, w2.cell? ⟨w.heap.size, k * 5 + 4, none⟩ = some u := ⟨_, own_cellV ho2 (List.getElem?_eq_getElem (by omega))⟩
      clear ho1 ho2 hall hb2 hvl f0 f1 f2 f3 f4 o2 q2 HO
      go_wp2
      go_roundw
      case rel =>
        refine ⟨k + 1, by omega, by go_num, ⟨_, fun i => if i = k then g2 else P i, fun i => if i = k then h2 else Q i, HS.out, fun i hi => ?_⟩, ((((hb02.setCell (Nat.le_refl _) _).setCell (Nat.le_refl _) _).setCell (Nat.le_refl _) _).setCell (Nat.le_refl _) _).setCell (Nat.le_refl _) _⟩
        by_cases e : i = k
        · subst e
          simp only [if_true]
          rw [HD.out]
          refine ⟨((((((NEW.out _ (at5_self (by rw [HVL.out]; omega))).far _ _).far _ _).far _ _).far _ _).far _ _), fun j hj => ?_⟩
          rw [if_neg (by omega)]
          exact (HALL.out j hj).2.2
        · have hik : i < k := by omega
          simp only [if_neg e]
          refine ⟨(((((((HALL.out i hik).1.vs ((HALL.out i hik).1.at5.set5 e _ _ _ _ _)).far _ _).far _ _).far _ _).far _ _).far _ _), fun j hj => ?_⟩
          rw [if_neg (by omega)]
          exact (HALL.out i hik).2.1 j hj
      case measure => simp [intOf]; omega
    · obtain rfl : k = n := by omega
      go_wp2
      go_ret
      exact ⟨rfl, HO.out, hb⟩

set_option maxHeartbeats 2000000 in
theorem eqDescS_same (a1 a2 : Option Addr) (n c1 c2 : Nat) (ds : List DK) (w : World) (h1 : DescAt w a1 n ds) (h2 : DescAt w a2 n ds) :
    Calls Try.prog 15 #[.slice a1 n c1, .slice a2 n c2] w fun e w' => e = .returned (.bool true) ∧ Below w.heap.size w w' := by
  have H1 : Hid (DescAt w a1 n ds) := h1
  have H2 : Hid (DescAt w a2 n ds) := h2
  have b1 := h1.2.1
  clear h1 h2
  go_enter Try.func15, Try.ntmps15
  go_wp2
  go_loopw [5] (fun i wr => ∃ k : Nat, k ≤ n ∧ i = .int .i64 k ∧ Below w.heap.size w wr) (fun i _ => n - (intOf i).toNat)
  case atStart => exact ⟨0, Nat.zero_le _, rfl, Below.refl _ _⟩
  case round =>
    obtain ⟨k, hk1, rfl, hb⟩ := hrel
    by_cases hlt1 : k < n
    · have hk0 : (0 : Int) ≤ (k : Int) := by omega
      have hk1' : (k : Int) < (n : Int) := by omega
      rcases (H1.out.below hb (Nat.le_refl _)).2.2 with h | ⟨p1, o1, rfl, g1⟩
      · omega
      rcases (H2.out.below hb (Nat.le_refl _)).2.2 with h | ⟨p2, o2, rfl, g2⟩
      · omega
      obtain ⟨ea, ec, ra, rc, ⟨e0, e1, e2, e3, e4⟩, h6, h7⟩ := g1 k hlt1
      obtain ⟨ea', ec', ra', rc', ⟨d0, d1, d2, d3, d4⟩, h6', h7'⟩ := g2 k hlt1
      obtain ⟨D, hD⟩ : ∃ D, dk ds k = D := ⟨_, rfl⟩
      rw [hD] at e0 e1 e2 e3 e4 d0 d1 d2 d3 d4 h6 h7 h6' h7'
      have H6 : Hid (TripAt wr ea D.en D.es ∧ TripAt wr ea' D.en D.es ∧ IntAt wr ra D.rn D.rs ∧ IntAt wr ra' D.rn D.rs) := ⟨h6, h6', h7, h7'⟩
      have q1 : p1 < wr.heap.size := World.block_lt_of_cell? wr _ e0
      have q2 : p2 < wr.heap.size := World.block_lt_of_cell? wr _ d0
      clear g1 g2 h6 h7 h6' h7' hD
      go_wp2_with fail
      go_region_held3 (fun w' => (w'.cell? ⟨p1, o1 + k * 5, none⟩ = some (I D.sq) ∧ w'.cell? ⟨p1, o1 + k * 5 + 1, none⟩ = some (I D.st) ∧ w'.cell? ⟨p1, o1 + k * 5 + 2, none⟩ = some (.slice ea D.en ec) ∧ w'.cell? ⟨p1, o1 + k * 5 + 3, none⟩ = some (I D.cd) ∧ w'.cell? ⟨p1, o1 + k * 5 + 4, none⟩ = some (.slice ra D.rn rc)) ∧ (w'.cell? ⟨p2, o2 + k * 5, none⟩ = some (I D.sq) ∧ w'.cell? ⟨p2, o2 + k * 5 + 1, none⟩ = some (I D.st) ∧ w'.cell? ⟨p2, o2 + k * 5 + 2, none⟩ = some (.slice ea' D.en ec') ∧ w'.cell? ⟨p2, o2 + k * 5 + 3, none⟩ = some (I D.cd) ∧ w'.cell? ⟨p2, o2 + k * 5 + 4, none⟩ = some (.slice ra' D.rn rc')))
        (first | (with_reducible exact K2.out) | go_keep)
        (first
        | (go_at_call 53
           refine (eqDesc_same D.sq D.st D.cd ea ea' ra ra' D.en D.en ec ec' D.rn D.rn rc rc' D.es D.rs _ (H6.out.1.below (Below.refl wr.heap.size wr).drew (Nat.le_refl _)) (H6.out.2.1.below (Below.refl wr.heap.size wr).drew (Nat.le_refl _)) (H6.out.2.2.1.below (Below.refl wr.heap.size wr).drew (Nat.le_refl _)) (H6.out.2.2.2.below (Below.refl wr.heap.size wr).drew (Nat.le_refl _))).mono ?_
           rintro e w2 ⟨rfl, hb2⟩
           have hb2' : Below wr.heap.size wr w2 := (Below.refl _ wr).drew.trans hb2
           have K2 : Hid ((w2.cell? ⟨p1, o1 + k * 5, none⟩ = some (I D.sq) ∧ w2.cell? ⟨p1, o1 + k * 5 + 1, none⟩ = some (I D.st) ∧ w2.cell? ⟨p1, o1 + k * 5 + 2, none⟩ = some (.slice ea D.en ec) ∧ w2.cell? ⟨p1, o1 + k * 5 + 3, none⟩ = some (I D.cd) ∧ w2.cell? ⟨p1, o1 + k * 5 + 4, none⟩ = some (.slice ra D.rn rc)) ∧ (w2.cell? ⟨p2, o2 + k * 5, none⟩ = some (I D.sq) ∧ w2.cell? ⟨p2, o2 + k * 5 + 1, none⟩ = some (I D.st) ∧ w2.cell? ⟨p2, o2 + k * 5 + 2, none⟩ = some (.slice ea' D.en ec') ∧ w2.cell? ⟨p2, o2 + k * 5 + 3, none⟩ = some (I D.cd) ∧ w2.cell? ⟨p2, o2 + k * 5 + 4, none⟩ = some (.slice ra' D.rn rc'))) :=
             ⟨⟨(hb2'.cell q1).trans e0, (hb2'.cell q1).trans e1, (hb2'.cell q1).trans e2, (hb2'.cell q1).trans e3, (hb2'.cell q1).trans e4⟩, (hb2'.cell q2).trans d0, (hb2'.cell q2).trans d1, (hb2'.cell q2).trans d2, (hb2'.cell q2).trans d3, (hb2'.cell q2).trans d4⟩
           have hb02 : Below w.heap.size w w2 := hb.trans (hb2'.mono hb.size)
           clear hb2 hb2'))
      clear e0 e1 e2 e3 e4 d0 d1 d2 d3 d4 K2
      go_wp2
      exact ⟨⟨k + 1, by omega, by go_num, hb02⟩, by simp [intOf]; omega⟩
    · obtain rfl : k = n := by omega
      go_wp2
      go_ret
      exact ⟨rfl, hb⟩
end Go.Proofs.Ytbdfopokimpeiaq
