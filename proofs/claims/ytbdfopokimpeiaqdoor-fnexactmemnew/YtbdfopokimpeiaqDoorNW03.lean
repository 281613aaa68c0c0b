/- Texts joined: Desc, OpenDesc, Descs, Clone, Descs2, Wrd1, Wrds, OpenW, SpecEntries, SpecWord, SpecDesc, SpecMem, LawMem, MemO, WordsT, Within, IsMark, WordOk, EqualI. -/
import Derived.Test.YtbdfopokimpeiaqDoorNW02
import Derived.OpenShut
import Derived.ChangeOld
import Derived.Deep.RegionHeld3
import Derived.Test.YtbdfopokimpeiaqDoorNW01
import Derived.Laws.AppendOwn
import Derived.Deep.RegionLaw
import Derived.Deep.QuietTactic
import Derived.BigQuiet
import Derived.Lib.SmallJoins
import Derived.Handy
/- Descs: as values; the laws' own functions on one. -/
namespace Go.Proofs.YtbdfopokimpeiaqDoor
open Go.ChangeShapes Go.WideShapes Go.ChangeAt Go.RowKit

/-- A Desc as a value: Seq, Status, List, Res's code and list. -/
abbrev DescV (sq st : Int) (ea : Option Addr) (en ec : Nat) (cd : Int) (ra : Option Addr) (rn rc : Nat) : Value := .agg #[.int .i64 sq, .int .i64 st, .slice ea en ec, .int .i64 cd, .slice ra rn rc]
abbrev DescC (sq st : Int) (ea : Option Addr) (en ec : Nat) (cd : Int) (ra : Option Addr) (rn rc : Nat) : Array Value := #[.int .i64 sq, .int .i64 st, .slice ea en ec, .int .i64 cd, .slice ra rn rc]
theorem Box.desc {w : World} {b : Nat} {T : TypeId} {sq st cd : Int} {ea ra : Option Addr} {en ec rn rc : Nat} (h : Box w b (DescC sq st ea en ec cd ra rn rc) T) :
    w.cell? ⟨b, 0, none⟩ = some (.int .i64 sq) ∧ w.cell? ⟨b, 1, none⟩ = some (.int .i64 st) ∧ w.cell? ⟨b, 2, none⟩ = some (.slice ea en ec) ∧ w.cell? ⟨b, 3, none⟩ = some (.int .i64 cd) ∧ w.cell? ⟨b, 4, none⟩ = some (.slice ra rn rc) ∧
    w.frozen? ⟨b, 0, none⟩ = false ∧ w.frozen? ⟨b, 1, none⟩ = false ∧ w.frozen? ⟨b, 2, none⟩ = false ∧ w.frozen? ⟨b, 3, none⟩ = false ∧ w.frozen? ⟨b, 4, none⟩ = false :=
  ⟨h.cell 0, h.cell 1, h.cell 2, h.cell 3, h.cell 4, h.frozen 0, h.frozen 1, h.frozen 2, h.frozen 3, h.frozen 4⟩

set_option maxHeartbeats 1000000 in
theorem eqDesc_same (sq st cd : Int) (ea ea' ra ra' : Option Addr) (en en' ec ec' rn rn' rc rc' : Nat) (es rs : List Int) (w : World) (h1 : TripAt w ea en es) (h2 : TripAt w ea' en' es) (h3 : IntAt w ra rn rs) (h4 : IntAt w ra' rn' rs) :
    Calls Tryd.prog 52 #[DescV sq st ea en ec cd ra rn rc, DescV sq st ea' en' ec' cd ra' rn' rc'] w fun e w' => e = .returned (.bool true) ∧ Below w.heap.size w w' := by
  have H1 : Hid (TripAt w ea en es ∧ TripAt w ea' en' es ∧ IntAt w ra rn rs ∧ IntAt w ra' rn' rs) := ⟨h1, h2, h3, h4⟩
  clear h1 h2 h3 h4
  have hb0 : Below w.heap.size w ((w.alloc (.cells (DescC sq st ea en ec cd ra rn rc) 59)).alloc (.cells (DescC sq st ea' en' ec' cd ra' rn' rc') 59)) := ((Below.refl _ w).alloc (Nat.le_refl _) _).alloc (by simp) _
  have HB0 : Hid _ := hb0
  clear hb0
  go_enter Tryd.func52, Tryd.ntmps52
  go_wp2_with fail
  refine (eqEntryS_any ea ea' en en' ec ec' es es _ (H1.out.1.below HB0.out (Nat.le_refl _)) (H1.out.2.1.below HB0.out (Nat.le_refl _))).mono ?_
  rintro e w1 ⟨rfl, hb1⟩
  rw [show decide (es = es) = true from decide_eq_true rfl]
  have B0 : Hid (Box w1 w.heap.size (DescC sq st ea en ec cd ra rn rc) 59) := ((box_of w _ _).alloc _).below hb1 (by simp; omega)
  have B1 : Hid (Box w1 (w.heap.size + 1) (DescC sq st ea' en' ec' cd ra' rn' rc') 59) := by
    have := (box_of (w.alloc (.cells (DescC sq st ea en ec cd ra rn rc) 59)) (DescC sq st ea' en' ec' cd ra' rn' rc') 59).below hb1 (by simp)
    simp at this
    exact this
  have HB1 : Hid (Below w.heap.size w w1) := HB0.out.trans (hb1.mono (by simp; omega))
  obtain ⟨_, _, _, x3, x4, _, _, _, _, _⟩ := B0.out.desc
  obtain ⟨_, _, _, y3, y4, _, _, _, _, _⟩ := B1.out.desc
  clear hb1 HB0
  go_wp2_with fail
  refine (eqRes_same ra ra' rn rn' rc rc' cd rs _ (H1.out.2.2.1.below HB1.out (Nat.le_refl _)) (H1.out.2.2.2.below HB1.out (Nat.le_refl _))).mono ?_
  rintro e w2 ⟨rfl, hb2⟩
  have HB2 : Hid (Below w.heap.size w w2) := HB1.out.trans (hb2.mono HB1.out.size)
  clear hb2
  go_wp2
  go_ret
  exact ⟨rfl, HB2.out⟩
end Go.Proofs.YtbdfopokimpeiaqDoor

/- A Desc that came in, opened. -/
namespace Go.Proofs.YtbdfopokimpeiaqDoor
open Go.ChangeShapes Go.WideShapes Go.ChangeAt Go.RowKit Go.Joins

theorem cellsInt6 : Tryd.prog.cellsOf 3 = 1 := by kernel_rfl
theorem cellsIntS6 : Tryd.prog.cellsOf 22 = 1 := by kernel_rfl
theorem list5 {α : Type} : ∀ {l : List α}, l.length = 5 → ∃ c0 c1 c2 c3 c4, l = [c0, c1, c2, c3, c4]
  | [c0, c1, c2, c3, c4], _ => ⟨c0, c1, c2, c3, c4, rfl⟩

/-- What is known of a Desc's five cells that came in. -/
structure DescIn (W : World) (sq st : Int) (ea : Option Addr) (en : Nat) (es : List Int) (cd : Int) (ra : Option Addr) (rn : Nat) (rs : List Int) : Prop where
  we : en ≤ 9223372036854775807
  wr : rn ≤ 9223372036854775807
  ents : en ≤ 1048576 → TripAt W ea en es
  ints : rn ≤ 1048576 → IntAt W ra rn rs
end Go.Proofs.YtbdfopokimpeiaqDoor

/- Lists of Descs: the laws' own functions on them; one that came in, opened. -/
namespace Go.Proofs.YtbdfopokimpeiaqDoor
open Go.ChangeShapes Go.WideShapes Go.ChangeAt Go.RowKit Go.Joins

/-- n Descs that came in lie there: their lists may be too long to be looked at. -/
def DescPre (w : World) (a : Option Addr) (n : Nat) (ds : List DK) : Prop :=
  ds.length = n ∧ n ≤ 1048576 ∧ (n = 0 ∨ ∃ b o, a = some ⟨b, o, none⟩ ∧ ∀ i, i < n → ∃ ea ec ra rc, Five w b (o + i * 5) (dk ds i) ea ec ra rc ∧ (dk ds i).en ≤ 9223372036854775807 ∧ (dk ds i).rn ≤ 9223372036854775807 ∧
    ((dk ds i).en ≤ 1048576 → TripAt w ea (dk ds i).en (dk ds i).es) ∧ ((dk ds i).rn ≤ 1048576 → IntAt w ra (dk ds i).rn (dk ds i).rs))
theorem DescPre.at {w : World} {a : Option Addr} {n : Nat} {ds : List DK} (h : DescPre w a n ds) (hs : ∀ i, i < n → (dk ds i).en ≤ 1048576 ∧ (dk ds i).rn ≤ 1048576) : DescAt w a n ds := by
  obtain ⟨h1, h2, h3 | ⟨b, o, h3, h4⟩⟩ := h
  · exact ⟨h1, h2, .inl h3⟩
  · refine ⟨h1, h2, .inr ⟨b, o, h3, fun i hi => ?_⟩⟩
    obtain ⟨ea, ec, ra, rc, h5, _, _, h6, h7⟩ := h4 i hi
    exact ⟨ea, ec, ra, rc, h5, h6 (hs i hi).1, h7 (hs i hi).2⟩
theorem dk_map {f : Nat → DK} {n i : Nat} (h : i < n) : dk ((List.range n).map f) i = f i := by
  unfold dk
  simp [List.getD, h]
end Go.Proofs.YtbdfopokimpeiaqDoor

/- A list that is copied by append onto an empty one: what the walk needs there. -/
namespace Go.Proofs.YtbdfopokimpeiaqDoor
open Go.ChangeShapes Go.WideShapes Go.ChangeAt Go.RowKit

theorem own_empty {w : World} {base : Nat} (hb : base ≤ w.heap.size) : (w.alloc (.cells #[] 3)).ownsRow base 3 1 (.slice (some ⟨w.heap.size, 0, none⟩) 0 0) 0 [] :=
  ⟨rfl, .inr ⟨w.heap.size, 0, #[], rfl, hb, (by show (w.heap.push _)[w.heap.size]? = _; simp), Nat.le_refl _, by unfold maxLen; omega, rfl, rfl⟩⟩
theorem own_empty_drew {w : World} {base g : Nat} (hg : w.heap.size = g) (hb : base ≤ g) : (w.alloc (.cells #[] 3)).drew.ownsRow base 3 1 (.slice (some ⟨g, 0, none⟩) 0 0) 0 [] := by
  subst hg
  exact own_empty hb
theorem own_weaken {w : World} {base base' : Nat} {e : TypeId} {size : Nat} {v : Value} {n : Nat} {xs : List Value} (h : w.ownsRow base e size v n xs) (hb : base' ≤ base) : w.ownsRow base' e size v n xs := by
  refine ⟨h.1, ?_⟩
  rcases h.2 with h2 | ⟨g, cap, cur, hv, hg, r⟩
  · exact .inl h2
  · exact .inr ⟨g, cap, cur, hv, Nat.le_trans hb hg, r⟩
theorem own_setCell_far {w : World} {base : Nat} {e : TypeId} {size : Nat} {v : Value} {n : Nat} {xs : List Value} (h : w.ownsRow base e size v n xs) {a : Addr} (ha : v.ownBlock ≠ some a.block) (u : Value) : (w.setCell a u).ownsRow base e size v n xs := by
  refine ⟨h.1, ?_⟩
  rcases h.2 with h2 | ⟨g, cap, cur, rfl, hg, hh, r⟩
  · exact .inl h2
  · exact .inr ⟨g, cap, cur, rfl, hg, by rw [Below.heap_setCell _ _ _ _ (fun e => ha (by simp [Value.ownBlock, e]))]; exact hh, r⟩
theorem own_at {w : World} {base : Nat} {e : TypeId} {v : Value} {n : Nat} {xs : List Int} (h : w.ownsRow base e 1 v n (xs.map I)) (hn : n ≤ 1099511627776) : ∃ a c, v = .slice a n c ∧ IntAt w a n xs := by
  have hl : xs.length = n := by have := h.1; simpa using this
  rcases h.2 with ⟨rfl, h0⟩ | ⟨g, cap, cur, rfl, _⟩
  · exact ⟨none, 0, by rw [h0], hl, hn, .inl h0⟩
  · exact ⟨_, cap, rfl, own_intAt h hn⟩
theorem news_len {xs : List Int} {n : Nat} (h : xs.length = n) : (xs.map I).length = n * 1 := by simp [h]
theorem news_at {w : World} {p o n : Nat} {xs : List Int} {ob : Obj} (hl : xs.length = n) (h : ∀ i, i < n → w.cell? ⟨p, o + i, none⟩ = some (I (xs.getD i 0))) :
    ∀ (j : Nat) (u : Value), (xs.map I)[j]? = some u → (w.alloc ob).cell? ((⟨p, o, none⟩ : Addr).add j) = some u := by
  intro j u hj
  have hj' : j < n := by
    rcases Nat.lt_or_ge j n with h1 | h1
    · exact h1
    · rw [List.getElem?_eq_none (by simp; omega)] at hj; cases hj
  have h1 := h j hj'
  have h2 := World.block_lt_of_cell? w _ h1
  have e : (⟨p, o, none⟩ : Addr).add j = ⟨p, o + j, none⟩ := by simp [Addr.add]
  rw [e, World.cell?_alloc_past _ _ _ (show p < w.heap.size from h2), h1]
  rw [List.getElem?_map, List.getElem?_eq_getElem (by omega)] at hj
  simpa [List.getD, show j < xs.length by omega] using hj
theorem news_at_drew {w : World} {p o n : Nat} {xs : List Int} {ob : Obj} (hl : xs.length = n) (h : ∀ i, i < n → w.cell? ⟨p, o + i, none⟩ = some (I (xs.getD i 0))) :
    ∀ (j : Nat) (u : Value), (xs.map I)[j]? = some u → (w.alloc ob).drew.cell? ((⟨p, o, none⟩ : Addr).add j) = some u := fun j u hj => news_at hl h j u hj
theorem IntAt.cells {w : World} {p o n : Nat} {xs : List Int} (h : IntAt w (some ⟨p, o, none⟩) n xs) : ∀ i, i < n → w.cell? ⟨p, o + i, none⟩ = some (I (xs.getD i 0)) := by
  intro i hi
  rcases h.2.2 with h0 | ⟨b, c, e, g⟩
  · omega
  · cases e
    exact g i hi
theorem below_appended_drew {a w1 w' : World} {B g c : Nat} {ob : Obj} (hb : Below B a w1) (hs : B ≤ w1.heap.size) (he : w1.heap.size = g) (hg : (w1.alloc ob).drew.grownBy w' (Value.slice (some ⟨g, 0, none⟩) 0 c).ownBlock) : Below B a w' :=
  (hb.alloc hs _).drew.grown hg (by simp; omega) fun k e => by cases e; exact he ▸ hs
theorem news_one {xs : List Int} : ∀ u ∈ xs.map I, u.oneCell' = true := by
  intro u hu
  simp at hu
  obtain ⟨x, _, rfl⟩ := hu
  rfl
theorem below_appended {w w1 w' : World} {ob : Obj} {c : Nat} (hb : Below w.heap.size w w1) (hs : w.heap.size ≤ w1.heap.size) (hg : (w1.alloc ob).grownBy w' (Value.slice (some ⟨w1.heap.size, 0, none⟩) 0 c).ownBlock) : Below w.heap.size w w' :=
  (hb.alloc hs _).grown hg (by simp; omega) fun k e => by cases e; exact hs
/-- append onto a list of the call's own, as one step of a region that draws its order. -/
theorem step_append_own {P : Program} {ops : Array Oper} {o : Oper} {a : Act} (w : World) {K : Act → World → Prop} {Q : Exit → Act → World → Prop} {E : Prop} (hg : o.guard = none) (s x : Operand) (t : TypeId)
    (ho : o.op = .call { callee := .builtin .append, args := #[s, x], argTypes := #[t, t] })
    (base : Nat) (e : TypeId) (i : TypeInfo) (z : Value) (size bytes : Nat) (ht : P.underlying t = some (.slice e)) (hi : P.info? e = some i) (hz : i.zero = some z)
    (hsize : i.size = size) (hby : i.bytes = bytes) (hzs : z.cells.size = size) (hsz : 0 < size)
    (v : Value) (n : Nat) (xs : List Value) (hs : a.eval s = v) (hown : w.ownsRow base e size v n xs)
    (ad : Addr) (m c : Nat) (news : List Value) (hx : a.eval x = .slice (some ad) m c) (hl : news.length = m * size) (hnews : ∀ j u, news[j]? = some u → w.cell? (ad.add j) = some u) (h1 : ∀ u ∈ news, u.oneCell' = true)
    (h63 : n + m ≤ maxLen) (hbytes : (n + m) * bytes ≤ 140737488355328) (hbase : base ≤ w.heap.size)
    (h : ∀ v' w', w'.ownsRow base e size v' (n + m) (xs ++ news) → w.grownBy w' v.ownBlock → (v' = .slice none 0 0 ↔ v = .slice none 0 0 ∧ m = 0) → K (a.put o.dst v') w') :
    if Region.wanted o (yielded ops a.tmps) = true then Oper.wp P o a w K Q else E := by
  rw [if_pos (by simp [Region.wanted, hg])]
  exact wp_append_own w s x t ho base e i z size bytes ht hi hz hsize hby hzs hsz v n xs hs hown ad m c news hx hl hnews h1 h63 hbytes hbase h
end Go.Proofs.YtbdfopokimpeiaqDoor

/- Lists of Descs of the call's own: toDescS, eqDescS. -/
namespace Go.Proofs.YtbdfopokimpeiaqDoor
open Go.ChangeShapes Go.WideShapes Go.ChangeAt Go.RowKit Go.Joins

/-- The i-th five of the list are a Desc whose lists lie at p and q. -/
def At5 (vs : List Value) (i : Nat) (d : DK) (p q : Nat) : Prop :=
  vs[i * 5]? = some (I d.sq) ∧ vs[i * 5 + 1]? = some (I d.st) ∧ vs[i * 5 + 2]? = some (.slice (some ⟨p, 0, none⟩) d.en d.en) ∧ vs[i * 5 + 3]? = some (I d.cd) ∧ vs[i * 5 + 4]? = some (.slice (some ⟨q, 0, none⟩) d.rn d.rn)
def set5 (vs : List Value) (k : Nat) (a b c e f : Value) : List Value := ((((vs.set (k * 5) a).set (k * 5 + 1) b).set (k * 5 + 2) c).set (k * 5 + 3) e).set (k * 5 + 4) f
theorem set5_other {vs : List Value} {k j : Nat} (h : j < k * 5 ∨ k * 5 + 4 < j) (a b c e f : Value) : (set5 vs k a b c e f)[j]? = vs[j]? := by
  unfold set5
  rw [List.getElem?_set_ne (by omega), List.getElem?_set_ne (by omega), List.getElem?_set_ne (by omega), List.getElem?_set_ne (by omega), List.getElem?_set_ne (by omega)]
theorem At5.set5 {vs : List Value} {i k : Nat} {d : DK} {p q : Nat} (h : At5 vs i d p q) (hik : i ≠ k) (a b c e f : Value) : At5 (set5 vs k a b c e f) i d p q := by
  obtain ⟨h0, h1, h2, h3, h4⟩ := h
  unfold At5
  rw [set5_other (by omega), set5_other (by omega), set5_other (by omega), set5_other (by omega), set5_other (by omega)]
  exact ⟨h0, h1, h2, h3, h4⟩
theorem at5_self {vs : List Value} {k : Nat} {d : DK} {p q : Nat} (h : k * 5 + 4 < vs.length) : At5 (Go.Proofs.YtbdfopokimpeiaqDoor.set5 vs k (I d.sq) (I d.st) (.slice (some ⟨p, 0, none⟩) d.en d.en) (I d.cd) (.slice (some ⟨q, 0, none⟩) d.rn d.rn)) k d p q := by
  unfold At5 Go.Proofs.YtbdfopokimpeiaqDoor.set5
  refine ⟨?_, ?_, ?_, ?_, ?_⟩
  · rw [List.getElem?_set_ne (by omega), List.getElem?_set_ne (by omega), List.getElem?_set_ne (by omega), List.getElem?_set_ne (by omega), List.getElem?_set_self (by omega)]
  · rw [List.getElem?_set_ne (by omega), List.getElem?_set_ne (by omega), List.getElem?_set_ne (by omega), List.getElem?_set_self (by simp; omega)]
  · rw [List.getElem?_set_ne (by omega), List.getElem?_set_ne (by omega), List.getElem?_set_self (by simp; omega)]
  · rw [List.getElem?_set_ne (by omega), List.getElem?_set_self (by simp; omega)]
  · rw [List.getElem?_set_self (by simp; omega)]
abbrev SL (g n : Nat) : Value := .slice (some ⟨g, 0, none⟩) n n
/-- What is known of the i-th Desc of a list of the call's own. -/
structure Own5 (w : World) (g : Nat) (vs : List Value) (d : DK) (i p q : Nat) : Prop where
  at5 : At5 vs i d p q
  gp : g < p
  pq : p < q
  ents : w.ownsRow p 62 3 (SL p d.en) d.en (d.es.map I)
  ints : w.ownsRow q 3 1 (SL q d.rn) d.rn (d.rs.map I)
/-- A list of Descs of the call's own, the first k of them laid. -/
def DescOwn (w : World) (g n : Nat) (ds : List DK) (k : Nat) : Prop :=
  ∃ (vs : List Value) (P Q : Nat → Nat), w.ownsRow g 59 5 (SL g n) n vs ∧ ∀ i, i < k → Own5 w g vs (dk ds i) i (P i) (Q i) ∧ ∀ j, j < i → Q j < P i
theorem Own5.below {w w' : World} {g : Nat} {vs : List Value} {d : DK} {i p q : Nat} (h : Own5 w g vs d i p q) {B : Nat} (hb : Below B w w') (hB : w.heap.size ≤ B) : Own5 w' g vs d i p q :=
  ⟨h.at5, h.gp, h.pq, owns_below h.ents hb hB, owns_below h.ints hb hB⟩
theorem DescOwn.below {w w' : World} {g n k : Nat} {ds : List DK} (h : DescOwn w g n ds k) {B : Nat} (hb : Below B w w') (hB : w.heap.size ≤ B) : DescOwn w' g n ds k := by
  obtain ⟨vs, P, Q, h1, h2⟩ := h
  exact ⟨vs, P, Q, owns_below h1 hb hB, fun i hi => ⟨(h2 i hi).1.below hb hB, (h2 i hi).2⟩⟩
theorem own_cellV {w : World} {base : Nat} {e : TypeId} {g n cap size j : Nat} {vs : List Value} {u : Value} (h : w.ownsRow base e size (.slice (some ⟨g, 0, none⟩) n cap) n vs) (hj : vs[j]? = some u) : w.cell? ⟨g, j, none⟩ = some u := by
  have hl : j < vs.length := (List.getElem?_eq_some_iff.1 hj).1
  rw [h.cellAt j (by rw [← h.1]; exact hl)]
  exact hj
theorem DescOwn.at {w : World} {g n : Nat} {ds : List DK} (h : DescOwn w g n ds n) (hl : ds.length = n) (hn : n ≤ 1048576) (hs : ∀ i, i < n → (dk ds i).en ≤ 1048576 ∧ (dk ds i).rn ≤ 1048576) : DescAt w (some ⟨g, 0, none⟩) n ds := by
  obtain ⟨vs, P, Q, h1, h2⟩ := h
  refine ⟨hl, hn, .inr ⟨g, 0, rfl, fun i hi => ?_⟩⟩
  obtain ⟨⟨⟨a0, a1, a2, a3, a4⟩, _, _, he, hi'⟩, _⟩ := h2 i hi
  refine ⟨some ⟨P i, 0, none⟩, (dk ds i).en, some ⟨Q i, 0, none⟩, (dk ds i).rn, ⟨?_, ?_, ?_, ?_, ?_⟩, own_tripAt he (hs i hi).1, own_intAt hi' (by have := (hs i hi).2; omega)⟩
  · rw [Nat.zero_add]; exact own_cellV h1 a0
  · rw [Nat.zero_add]; exact own_cellV h1 a1
  · rw [Nat.zero_add]; exact own_cellV h1 a2
  · rw [Nat.zero_add]; exact own_cellV h1 a3
  · rw [Nat.zero_add]; exact own_cellV h1 a4
theorem infoDesc : (Tryd.prog.info? 59).map (fun i => (i.zero, i.size, i.bytes)) = some (some (.agg (DescC 0 0 none 0 0 0 none 0 0)), 5, 72) := by kernel_rfl
theorem own_set5 {w : World} {g n : Nat} {vs : List Value} (h : w.ownsRow g 59 5 (SL g n) n vs) (k : Nat) (a b c e f : Value) :
    (((((w.setCell ⟨g, k * 5, none⟩ a).setCell ⟨g, k * 5 + 1, none⟩ b).setCell ⟨g, k * 5 + 2, none⟩ c).setCell ⟨g, k * 5 + 3, none⟩ e).setCell ⟨g, k * 5 + 4, none⟩ f).ownsRow g 59 5 (SL g n) n (set5 vs k a b c e f) :=
  ((((((h.stored _ a).1.stored _ b).1.stored _ c).1.stored _ e).1.stored _ f).1)
theorem Own5.far {w : World} {g : Nat} {vs : List Value} {d : DK} {i p q : Nat} (h : Own5 w g vs d i p q) (j : Nat) (u : Value) : Own5 (w.setCell ⟨g, j, none⟩ u) g vs d i p q :=
  ⟨h.at5, h.gp, h.pq, ownsRow_setCell_below h.ents h.gp _, ownsRow_setCell_below h.ints (Nat.lt_trans h.gp h.pq) _⟩
theorem Own5.vs {w : World} {g : Nat} {vs vs' : List Value} {d : DK} {i p q : Nat} (h : Own5 w g vs d i p q) (ha : At5 vs' i d p q) : Own5 w g vs' d i p q := ⟨ha, h.gp, h.pq, h.ents, h.ints⟩

set_option maxHeartbeats 2000000 in
theorem eqDescS_same (a1 a2 : Option Addr) (n c1 c2 : Nat) (ds : List DK) (w : World) (h1 : DescAt w a1 n ds) (h2 : DescAt w a2 n ds) :
    Calls Tryd.prog 22 #[.slice a1 n c1, .slice a2 n c2] w fun e w' => e = .returned (.bool true) ∧ Below w.heap.size w w' := by
  have H1 : Hid (DescAt w a1 n ds) := h1
  have H2 : Hid (DescAt w a2 n ds) := h2
  have b1 := h1.2.1
  clear h1 h2
  go_enter Tryd.func22, Tryd.ntmps22
  go_wp2
  go_loopw [5] (fun i wr => ∃ k : Nat, k ≤ n ∧ i = .int .i64 k ∧ Below w.heap.size w wr) (fun i _ => n - (intOf i).toNat)
  case atStart => exact ⟨0, Nat.zero_le _, rfl, Below.refl _ _⟩
  case round =>
    obtain ⟨k, hk1, rfl, hb⟩ := hrel
    by_cases hlt1 : k < n
    · have hk0 : (0 : Int) ≤ (k : Int) := by omega
      have hk1' : (k : Int) < (n : Int) := by omega
      rcases (H1.out.below hb (Nat.le_refl _)).2.2 with h | ⟨p1, o1, rfl, g1⟩
      · omega
      rcases (H2.out.below hb (Nat.le_refl _)).2.2 with h | ⟨p2, o2, rfl, g2⟩
      · omega
      obtain ⟨ea, ec, ra, rc, ⟨e0, e1, e2, e3, e4⟩, h6, h7⟩ := g1 k hlt1
      obtain ⟨ea', ec', ra', rc', ⟨d0, d1, d2, d3, d4⟩, h6', h7'⟩ := g2 k hlt1
      obtain ⟨D, hD⟩ : ∃ D, dk ds k = D := ⟨_, rfl⟩
      rw [hD] at e0 e1 e2 e3 e4 d0 d1 d2 d3 d4 h6 h7 h6' h7'
      have H6 : Hid (TripAt wr ea D.en D.es ∧ TripAt wr ea' D.en D.es ∧ IntAt wr ra D.rn D.rs ∧ IntAt wr ra' D.rn D.rs) := ⟨h6, h6', h7, h7'⟩
      have q1 : p1 < wr.heap.size := World.block_lt_of_cell? wr _ e0
      have q2 : p2 < wr.heap.size := World.block_lt_of_cell? wr _ d0
      clear g1 g2 h6 h7 h6' h7' hD
      go_wp2_with fail
      go_region_held3 (fun w' => (w'.cell? ⟨p1, o1 + k * 5, none⟩ = some (I D.sq) ∧ w'.cell? ⟨p1, o1 + k * 5 + 1, none⟩ = some (I D.st) ∧ w'.cell? ⟨p1, o1 + k * 5 + 2, none⟩ = some (.slice ea D.en ec) ∧ w'.cell? ⟨p1, o1 + k * 5 + 3, none⟩ = some (I D.cd) ∧ w'.cell? ⟨p1, o1 + k * 5 + 4, none⟩ = some (.slice ra D.rn rc)) ∧ (w'.cell? ⟨p2, o2 + k * 5, none⟩ = some (I D.sq) ∧ w'.cell? ⟨p2, o2 + k * 5 + 1, none⟩ = some (I D.st) ∧ w'.cell? ⟨p2, o2 + k * 5 + 2, none⟩ = some (.slice ea' D.en ec') ∧ w'.cell? ⟨p2, o2 + k * 5 + 3, none⟩ = some (I D.cd) ∧ w'.cell? ⟨p2, o2 + k * 5 + 4, none⟩ = some (.slice ra' D.rn rc')))
        (first | (with_reducible exact K2.out) | go_keep)
        (first
        | (go_at_call 52
           refine (eqDesc_same D.sq D.st D.cd ea ea' ra ra' D.en D.en ec ec' D.rn D.rn rc rc' D.es D.rs _ (H6.out.1.below (Below.refl wr.heap.size wr).drew (Nat.le_refl _)) (H6.out.2.1.below (Below.refl wr.heap.size wr).drew (Nat.le_refl _)) (H6.out.2.2.1.below (Below.refl wr.heap.size wr).drew (Nat.le_refl _)) (H6.out.2.2.2.below (Below.refl wr.heap.size wr).drew (Nat.le_refl _))).mono ?_
           rintro e w2 ⟨rfl, hb2⟩
           have hb2' : Below wr.heap.size wr w2 := (Below.refl _ wr).drew.trans hb2
           have K2 : Hid ((w2.cell? ⟨p1, o1 + k * 5, none⟩ = some (I D.sq) ∧ w2.cell? ⟨p1, o1 + k * 5 + 1, none⟩ = some (I D.st) ∧ w2.cell? ⟨p1, o1 + k * 5 + 2, none⟩ = some (.slice ea D.en ec) ∧ w2.cell? ⟨p1, o1 + k * 5 + 3, none⟩ = some (I D.cd) ∧ w2.cell? ⟨p1, o1 + k * 5 + 4, none⟩ = some (.slice ra D.rn rc)) ∧ (w2.cell? ⟨p2, o2 + k * 5, none⟩ = some (I D.sq) ∧ w2.cell? ⟨p2, o2 + k * 5 + 1, none⟩ = some (I D.st) ∧ w2.cell? ⟨p2, o2 + k * 5 + 2, none⟩ = some (.slice ea' D.en ec') ∧ w2.cell? ⟨p2, o2 + k * 5 + 3, none⟩ = some (I D.cd) ∧ w2.cell? ⟨p2, o2 + k * 5 + 4, none⟩ = some (.slice ra' D.rn rc'))) :=
             ⟨⟨(hb2'.cell q1).trans e0, (hb2'.cell q1).trans e1, (hb2'.cell q1).trans e2, (hb2'.cell q1).trans e3, (hb2'.cell q1).trans e4⟩, (hb2'.cell q2).trans d0, (hb2'.cell q2).trans d1, (hb2'.cell q2).trans d2, (hb2'.cell q2).trans d3, (hb2'.cell q2).trans d4⟩
           have hb02 : Below w.heap.size w w2 := hb.trans (hb2'.mono hb.size)
           clear hb2 hb2'))
      clear e0 e1 e2 e3 e4 d0 d1 d2 d3 d4 K2
      go_wp2
      exact ⟨⟨k + 1, by omega, by go_num, hb02⟩, by simp [intOf]; omega⟩
    · obtain rfl : k = n := by omega
      go_wp2
      go_ret
      exact ⟨rfl, hb⟩
end Go.Proofs.YtbdfopokimpeiaqDoor

/- A word: as a value; the law's own function on one. -/
namespace Go.Proofs.YtbdfopokimpeiaqDoor
open Go.ChangeShapes Go.WideShapes Go.ChangeAt Go.RowKit

abbrev WordV (x y z : Int) : Value := .agg #[.int .i64 x, .int .i64 y, .int .i64 z]
end Go.Proofs.YtbdfopokimpeiaqDoor

/- Lists of words: the law's own functions on them. -/
namespace Go.Proofs.YtbdfopokimpeiaqDoor
open Go.ChangeShapes Go.WideShapes Go.ChangeAt Go.RowKit

theorem infoWord : (Tryd.prog.info? 42).map (fun i => (i.zero, i.size, i.bytes)) = some (some (.agg #[.int .i64 0, .int .i64 0, .int .i64 0]), 3, 24) := by kernel_rfl
set_option maxHeartbeats 1000000 in
theorem eqWord_any (x y z x' y' z' : Int) (w : World) : Calls Tryd.prog 51 #[WordV x y z, WordV x' y' z'] w fun e w' => e = .returned (.bool (decide (x = x' ∧ y = y' ∧ z = z'))) ∧ Below w.heap.size w w' := by
  obtain ⟨B, hB⟩ : ∃ B, decide (x = x' ∧ y = y' ∧ z = z') = B := ⟨_, rfl⟩
  rw [hB]
  have HB : Hid (decide (x = x' ∧ y = y' ∧ z = z') = B) := hB
  clear hB
  have neb2 : ∀ a b : Int, (a = b ∧ (a != b) = false) ∨ (¬ a = b ∧ (a != b) = true) := fun a b => by
    by_cases h : a = b
    · exact .inl ⟨h, by simp [h]⟩
    · exact .inr ⟨h, by simp [h]⟩
  rcases neb2 x x' with ⟨h1, g1⟩ | ⟨h1, g1⟩ <;> rcases neb2 y y' with ⟨h2, g2⟩ | ⟨h2, g2⟩ <;> rcases neb2 z z' with ⟨h3, g3⟩ | ⟨h3, g3⟩
  all_goals
    have H1 : Hid _ := h1
    have H2 : Hid _ := h2
    have H3 : Hid _ := h3
    clear h1 h2 h3 neb2
    go_enter Tryd.func51, Tryd.ntmps51
    go_wp2
    iterate 3
      all_goals (try go_region)
      all_goals (try go_wp2)
    all_goals
      go_ret
      refine ⟨?_, (by
        have h0 := ((Below.refl w.heap.size w).alloc (Nat.le_refl _) (.cells #[.int .i64 x, .int .i64 y, .int .i64 z] 42)).alloc (by simp) (.cells #[.int .i64 x', .int .i64 y', .int .i64 z'] 42)
        first | exact h0 | exact h0.drew | exact h0.drew.drew | exact h0.drew.drew.drew)⟩
      rw [← HB.out]
      have h1 := H1.out
      have h2 := H2.out
      have h3 := H3.out
      first
        | (rw [decide_eq_true (show x = x' ∧ y = y' ∧ z = z' from ⟨h1, h2, h3⟩)]; rfl)
        | (rw [decide_eq_false (fun h : x = x' ∧ y = y' ∧ z = z' => h3 h.2.2)]; rfl)
        | (rw [decide_eq_false (fun h : x = x' ∧ y = y' ∧ z = z' => h2 h.2.1)]; rfl)
        | (rw [decide_eq_false (fun h : x = x' ∧ y = y' ∧ z = z' => h1 h.1)]; rfl)

set_option maxHeartbeats 1000000 in
theorem eqWordS_any (a1 a2 : Option Addr) (n1 n2 c1 c2 : Nat) (fs gs : List Int) (w : World) (h1 : TripAt w a1 n1 fs) (h2 : TripAt w a2 n2 gs) :
    Calls Tryd.prog 21 #[.slice a1 n1 c1, .slice a2 n2 c2] w fun e w' => e = .returned (.bool (decide (fs = gs))) ∧ Below w.heap.size w w' := by
  have H1 : Hid (TripAt w a1 n1 fs) := h1
  have H2 : Hid (TripAt w a2 n2 gs) := h2
  have L1 : Hid (fs.length = n1 * 3) := h1.1
  have L2 : Hid (gs.length = n2 * 3) := h2.1
  have b1 := h1.2.1
  have b2 := h2.2.1
  obtain ⟨B, hB⟩ : ∃ B, decide (fs = gs) = B := ⟨_, rfl⟩
  rw [hB]
  have HB : Hid (decide (fs = gs) = B) := hB
  clear h1 h2 hB
  by_cases hn : n1 = n2
  · subst hn
    go_enter Tryd.func21, Tryd.ntmps21
    go_wp2
    go_loopw [5] (fun i wr => ∃ k : Nat, k ≤ n1 ∧ i = .int .i64 k ∧ fs.take (k * 3) = gs.take (k * 3) ∧ Below w.heap.size w wr) (fun i _ => n1 - (intOf i).toNat)
    case atStart => exact ⟨0, Nat.zero_le _, rfl, rfl, Below.refl _ _⟩
    case round =>
      obtain ⟨k, hk1, rfl, ht, hb⟩ := hrel
      have HT : Hid (fs.take (k * 3) = gs.take (k * 3)) := ht
      clear ht
      by_cases hlt1 : k < n1
      · have hk0 : (0 : Int) ≤ (k : Int) := by omega
        have hk1' : (k : Int) < (n1 : Int) := by omega
        rcases (H1.out.below hb (Nat.le_refl _)).2.2 with h | ⟨p1, o1, rfl, g1⟩
        · omega
        rcases (H2.out.below hb (Nat.le_refl _)).2.2 with h | ⟨p2, o2, rfl, g2⟩
        · omega
        obtain ⟨x, hx⟩ : ∃ x, fs.getD (k * 3) 0 = x := ⟨_, rfl⟩
        obtain ⟨y, hy⟩ : ∃ y, fs.getD (k * 3 + 1) 0 = y := ⟨_, rfl⟩
        obtain ⟨z, hz⟩ : ∃ z, fs.getD (k * 3 + 2) 0 = z := ⟨_, rfl⟩
        obtain ⟨x', hx'⟩ : ∃ x, gs.getD (k * 3) 0 = x := ⟨_, rfl⟩
        obtain ⟨y', hy'⟩ : ∃ y, gs.getD (k * 3 + 1) 0 = y := ⟨_, rfl⟩
        obtain ⟨z', hz'⟩ : ∃ z, gs.getD (k * 3 + 2) 0 = z := ⟨_, rfl⟩
        have e1 := g1 (k * 3) (by omega)
        have e2 := g1 (k * 3 + 1) (by omega)
        have e3 := g1 (k * 3 + 2) (by omega)
        have e4 := g2 (k * 3) (by omega)
        have e5 := g2 (k * 3 + 1) (by omega)
        have e6 := g2 (k * 3 + 2) (by omega)
        rw [hx] at e1
        rw [hy, ← Nat.add_assoc] at e2
        rw [hz, ← Nat.add_assoc] at e3
        rw [hx'] at e4
        rw [hy', ← Nat.add_assoc] at e5
        rw [hz', ← Nat.add_assoc] at e6
        have HX : Hid (fs.getD (k * 3) 0 = x ∧ fs.getD (k * 3 + 1) 0 = y ∧ fs.getD (k * 3 + 2) 0 = z ∧ gs.getD (k * 3) 0 = x' ∧ gs.getD (k * 3 + 1) 0 = y' ∧ gs.getD (k * 3 + 2) 0 = z') := ⟨hx, hy, hz, hx', hy', hz'⟩
        clear g1 g2 hx hy hz hx' hy' hz'
        have q1 : p1 < wr.heap.size := World.block_lt_of_cell? wr _ e1
        have q2 : p2 < wr.heap.size := World.block_lt_of_cell? wr _ e4
        obtain ⟨D, hD⟩ : ∃ D, decide (x = x' ∧ y = y' ∧ z = z') = D := ⟨_, rfl⟩
        have HD : Hid (decide (x = x' ∧ y = y' ∧ z = z') = D) := hD
        clear hD
        go_wp2_with fail
        go_region_held3 (fun w' => w'.cell? ⟨p1, o1 + k * 3, none⟩ = some (I x) ∧ w'.cell? ⟨p1, o1 + k * 3 + 1, none⟩ = some (I y) ∧ w'.cell? ⟨p1, o1 + k * 3 + 2, none⟩ = some (I z) ∧ w'.cell? ⟨p2, o2 + k * 3, none⟩ = some (I x') ∧ w'.cell? ⟨p2, o2 + k * 3 + 1, none⟩ = some (I y') ∧ w'.cell? ⟨p2, o2 + k * 3 + 2, none⟩ = some (I z'))
          (first | (with_reducible exact K2.out) | go_keep)
          (first
          | (go_at_call 51
             refine (eqWord_any x y z x' y' z' _).mono ?_
             rintro e w2 ⟨rfl, hb2⟩
             rw [HD.out]
             have hb2' : Below wr.heap.size wr w2 := (Below.refl _ wr).drew.trans hb2
             have K2 : Hid (w2.cell? ⟨p1, o1 + k * 3, none⟩ = some (I x) ∧ w2.cell? ⟨p1, o1 + k * 3 + 1, none⟩ = some (I y) ∧ w2.cell? ⟨p1, o1 + k * 3 + 2, none⟩ = some (I z) ∧ w2.cell? ⟨p2, o2 + k * 3, none⟩ = some (I x') ∧ w2.cell? ⟨p2, o2 + k * 3 + 1, none⟩ = some (I y') ∧ w2.cell? ⟨p2, o2 + k * 3 + 2, none⟩ = some (I z')) := ⟨(hb2'.cell (show p1 < _ from q1)).trans e1, (hb2'.cell (show p1 < _ from q1)).trans e2, (hb2'.cell (show p1 < _ from q1)).trans e3, (hb2'.cell (show p2 < _ from q2)).trans e4, (hb2'.cell (show p2 < _ from q2)).trans e5, (hb2'.cell (show p2 < _ from q2)).trans e6⟩
             have hb02 : Below w.heap.size w w2 := hb.trans (hb2'.mono hb.size)
             clear hb2 hb2'))
        clear e1 e2 e3 e4 e5 e6 K2
        by_cases hh : x = x' ∧ y = y' ∧ z = z'
        · obtain rfl : D = true := by rw [← HD.out]; exact decide_eq_true hh
          have HH : Hid (x = x' ∧ y = y' ∧ z = z') := hh
          clear hh HD
          go_wp2
          have l1 := L1.out
          have l2 := L2.out
          obtain ⟨q1, q2, q3, q4, q5, q6⟩ := HX.out
          exact ⟨⟨k + 1, by omega, by go_num, take_three (by omega) (by omega) HT.out (by rw [q1, q4]; exact HH.out.1) (by rw [q2, q5]; exact HH.out.2.1) (by rw [q3, q6]; exact HH.out.2.2), hb02⟩, by simp [intOf]; omega⟩
        · obtain rfl : D = false := by rw [← HD.out]; exact decide_eq_false hh
          have HH : Hid (fs ≠ gs) := fun e => by
            obtain ⟨q1, q2, q3, q4, q5, q6⟩ := HX.out
            exact hh ⟨by rw [← q1, ← q4, e], by rw [← q2, ← q5, e], by rw [← q3, ← q6, e]⟩
          clear hh
          go_wp2
          go_ret
          refine ⟨?_, hb02⟩
          rw [← HB.out]
          simp [HH.out]
      · obtain rfl : k = n1 := by omega
        go_wp2
        go_ret
        refine ⟨?_, hb⟩
        have l1 := L1.out
        have l2 := L2.out
        have e : fs = gs := by
          have e0 := HT.out
          rwa [List.take_of_length_le (by omega), List.take_of_length_le (by omega)] at e0
        rw [← HB.out]
        simp [e]
  · have hne : ((n1 : Int) != (n2 : Int)) = true := by simp; omega
    have hxy : fs ≠ gs := fun e => by have l1 := L1.out; have l2 := L2.out; rw [e] at l1; omega
    have HX : Hid (fs ≠ gs) := hxy
    clear hxy
    go_enter Tryd.func21, Tryd.ntmps21
    go_wp2
    go_ret
    refine ⟨?_, Below.refl _ _⟩
    rw [← HB.out]
    simp [HX.out]
end Go.Proofs.YtbdfopokimpeiaqDoor

/- Words, and a list of Descs, that came in, opened. -/
namespace Go.Proofs.YtbdfopokimpeiaqDoor
open Go.ChangeShapes Go.WideShapes Go.ChangeAt Go.RowKit Go.Joins

end Go.Proofs.YtbdfopokimpeiaqDoor

/- spec.Entries, walked at any Desc and any place. -/
namespace Go.Proofs.YtbdfopokimpeiaqDoor
open Go.ChangeShapes Go.WideShapes Go.ChangeAt Go.RowKit

theorem Box.three {w : World} {b : Nat} {T : TypeId} {x y z : Value} (h : Box w b #[x, y, z] T) :
    w.cell? ⟨b, 0, none⟩ = some x ∧ w.cell? ⟨b, 1, none⟩ = some y ∧ w.cell? ⟨b, 2, none⟩ = some z ∧ w.frozen? ⟨b, 0, none⟩ = false ∧ w.frozen? ⟨b, 1, none⟩ = false ∧ w.frozen? ⟨b, 2, none⟩ = false :=
  ⟨h.cell 0, h.cell 1, h.cell 2, h.frozen 0, h.frozen 1, h.frozen 2⟩
set_option maxHeartbeats 1000000 in
theorem specEntries_any (sq st : Int) (ea : Option Addr) (en ec : Nat) (es : List Int) (cd : Int) (ra : Option Addr) (rn rc : Nat) (at_ : Int) (w : World) (h1 : TripAt w ea en es) :
    Calls Tryd.prog 38 #[DescV sq st ea en ec cd ra rn rc, .int .i64 at_] w fun e w' => e = .returned (.tuple #[EntryV (entM es en at_).1 (entM es en at_).2.1 (entM es en at_).2.2.1, .bool (entM es en at_).2.2.2]) ∧ Below w.heap.size w w' := by
  have H1 : Hid (TripAt w ea en es) := h1
  have hn := h1.2.1
  obtain ⟨r, hr⟩ : ∃ r, entM es en at_ = r := ⟨_, rfl⟩
  rw [hr]
  have HR : Hid (entM es en at_ = r) := hr
  have HB0 : Hid (Below w.heap.size w ((w.alloc (.cells (DescC sq st ea en ec cd ra rn rc) 59)).alloc (.cells #[.int .i64 0, .int .i64 0, .int .i64 0] 62))) := ((Below.refl _ w).alloc (Nat.le_refl _) _).alloc (by simp) _
  have B1 : Hid (Box ((w.alloc (.cells (DescC sq st ea en ec cd ra rn rc) 59)).alloc (.cells #[.int .i64 0, .int .i64 0, .int .i64 0] 62)) (w.heap.size + 1) #[.int .i64 0, .int .i64 0, .int .i64 0] 62) := by
    have := box_of (w.alloc (.cells (DescC sq st ea en ec cd ra rn rc) 59)) #[.int .i64 0, .int .i64 0, .int .i64 0] 62
    simp at this
    exact this
  clear h1 hr
  go_enter Tryd.func38, Tryd.ntmps38
  go_wp2
  go_loopw [6] (fun i wr => ∃ k : Nat, k ≤ en ∧ i = .int .i64 (k : Int) ∧ (∀ i, i < k → es.getD (i * 3) 0 ≠ at_) ∧ Box wr w.heap.size (DescC sq st ea en ec cd ra rn rc) 59 ∧ Box wr (w.heap.size + 1) #[.int .i64 0, .int .i64 0, .int .i64 0] 62 ∧ Below w.heap.size w wr) (fun i _ => en - (intOf i).toNat)
  case atStart => exact ⟨0, Nat.zero_le _, rfl, fun i hi => by omega, (box_of w _ _).alloc _, B1.out, HB0.out⟩
  case round =>
    obtain ⟨k, hk, rfl, hno, hbox, hbox2, hb⟩ := hrel
    have HNO : Hid (∀ i, i < k → es.getD (i * 3) 0 ≠ at_) := hno
    have HBX : Hid (Box wr w.heap.size (DescC sq st ea en ec cd ra rn rc) 59 ∧ Box wr (w.heap.size + 1) #[.int .i64 0, .int .i64 0, .int .i64 0] 62) := ⟨hbox, hbox2⟩
    obtain ⟨_, _, x2, _, _, _, _, _, _, _⟩ := hbox.desc
    obtain ⟨y0, y1, y2, f0, f1, f2⟩ := hbox2.three
    clear hno hbox hbox2 B1 HB0
    by_cases hlt : k < en
    · rcases (H1.out.below hb (Nat.le_refl _)).2.2 with h0 | ⟨p1, o1, rfl, g1⟩
      · omega
      have hk0 : (0 : Int) ≤ (k : Int) := by omega
      have hk1 : (k : Int) < (en : Int) := by omega
      have e1 := g1 (k * 3) (by omega)
      have e2 := g1 (k * 3 + 1) (by omega)
      have e3 := g1 (k * 3 + 2) (by omega)
      obtain ⟨x, hx⟩ : ∃ x, es.getD (k * 3) 0 = x := ⟨_, rfl⟩
      obtain ⟨y, hy⟩ : ∃ y, es.getD (k * 3 + 1) 0 = y := ⟨_, rfl⟩
      obtain ⟨z, hz⟩ : ∃ z, es.getD (k * 3 + 2) 0 = z := ⟨_, rfl⟩
      have HX : Hid (es.getD (k * 3) 0 = x ∧ es.getD (k * 3 + 1) 0 = y ∧ es.getD (k * 3 + 2) 0 = z) := ⟨hx, hy, hz⟩
      rw [hx] at e1
      rw [hy, ← Nat.add_assoc] at e2
      rw [hz, ← Nat.add_assoc] at e3
      clear g1 hx hy hz
      by_cases hxa : x = at_
      · have hxb : (x == at_) = true := by simpa using hxa
        have HV : Hid (r = (x, y, z, true)) := by
          show _ = _
          obtain ⟨q1, q2, q3⟩ := HX.out
          rw [← HR.out, entM_yes (idxE_eq (Nat.le_of_lt hlt) HNO.out fun _ => q1.trans hxa) hlt, q1, q2, q3]
        clear hxa
        go_wp2
        (try simp only [Exit.inBlock, Exit.then])
        refine bodyPost_ret (v := .tuple #[EntryV x y z, .bool true]) (by simp [results, Tryd.results38, go_sem, y0, y1, y2]; try rfl) rfl ?_
        refine ⟨by rw [HV.out], ((hb.setCell (by simp) _).setCell (by simp) _).setCell (by simp) _⟩
      · have hxb : (x == at_) = false := by simpa using hxa
        have HN : Hid (∀ i, i < k + 1 → es.getD (i * 3) 0 ≠ at_) := fun i hi => by
          by_cases e : i = k
          · rw [e, HX.out.1]; exact hxa
          · exact HNO.out i (by omega)
        clear hxa
        go_wp2
        exact ⟨⟨k + 1, by omega, by go_num, HN.out, HBX.out.1, HBX.out.2, hb⟩, by simp [intOf]; omega⟩
    · obtain rfl : k = en := by omega
      have HV : Hid (r = (0, 0, 0, false)) := by show _ = _; rw [← HR.out, entM_no (idxE_eq (Nat.le_refl _) HNO.out fun h => by omega)]
      go_wp2
      (try simp only [Exit.inBlock, Exit.then])
      refine bodyPost_ret (v := .tuple #[EntryV 0 0 0, .bool false]) (by simp [results, Tryd.results38, go_sem, y0, y1, y2]; try rfl) rfl ?_
      refine ⟨by rw [HV.out], ?_⟩
      first
        | exact ((hb.setCell (by simp) _).setCell (by simp) _).setCell (by simp) _
        | exact hb
end Go.Proofs.YtbdfopokimpeiaqDoor

/- spec.WordOk, walked at any word and any number of threads. -/
namespace Go.Proofs.YtbdfopokimpeiaqDoor
open Go.ChangeShapes Go.WideShapes Go.ChangeAt Go.RowKit Go.Joins

/-- A number from 0 to 1000, or a mark of one of so many threads. -/
def wordOkM (n t s th : Int) : Bool := if t = 0 then (decide (s = 0) && inB n 0 1000) else (decide (n = 0) && (inB t 1 th && inB s 1 1000000))
set_option maxHeartbeats 1000000 in
theorem specWordOk_any (n t s th : Int) (w : World) : Calls Tryd.prog 37 #[WordV n t s, .int .i64 th] w fun e w' => e = .returned (.bool (wordOkM n t s th)) ∧ Below w.heap.size w w' := by
  have hb0 : Below w.heap.size w (w.alloc (.cells #[.int .i64 n, .int .i64 t, .int .i64 s] 42)) := (Below.refl _ w).alloc (Nat.le_refl _) _
  have HB : Hid _ := hb0
  clear hb0
  obtain ⟨B, hB⟩ : ∃ B, wordOkM n t s th = B := ⟨_, rfl⟩
  rw [hB]
  have HM : Hid (wordOkM n t s th = B) := hB
  clear hB
  by_cases ht : t = 0
  · subst ht
    by_cases hs : s = 0
    · subst hs
      go_enter Tryd.func37, Tryd.ntmps37
      go_wp2_with fail
      refine (l1In_g n 0 1000 _).mono ?_
      rintro e w1 ⟨rfl, rfl⟩
      rw [show inB n 0 1000 = B from by rw [← HM.out]; simp [wordOkM]]
      go_wp2
      go_ret
      exact ⟨rfl, HB.out⟩
    · have hs' : (s == 0) = false := by simpa using hs
      obtain rfl : B = false := by rw [← HM.out]; simp [wordOkM, hs]
      clear HM hs
      go_enter Tryd.func37, Tryd.ntmps37
      go_wp2
      go_ret
      exact ⟨rfl, HB.out⟩
  · have ht' : (t == 0) = false := by simpa using ht
    by_cases hn : n = 0
    · subst hn
      rcases hi : inB t 1 th with _ | _
      · obtain rfl : B = false := by rw [← HM.out]; simp [wordOkM, ht, hi]
        have HI : Hid (inB t 1 th = false) := hi
        clear HM ht hi
        go_enter Tryd.func37, Tryd.ntmps37
        go_wp2_with fail
        refine (l1In_g t 1 th _).mono ?_
        rintro e w1 ⟨rfl, rfl⟩
        rw [HI.out]
        go_wp2
        go_ret
        exact ⟨rfl, HB.out⟩
      · have HI : Hid (inB t 1 th = true) := hi
        have HS : Hid (inB s 1 1000000 = B) := by show _ = _; rw [← HM.out]; simp [wordOkM, ht, hi]
        clear HM ht hi
        go_enter Tryd.func37, Tryd.ntmps37
        go_wp2_with fail
        refine (l1In_g t 1 th _).mono ?_
        rintro e w1 ⟨rfl, rfl⟩
        rw [HI.out]
        go_wp2_with fail
        refine (l1In_g s 1 1000000 _).mono ?_
        rintro e w2 ⟨rfl, rfl⟩
        rw [HS.out]
        go_wp2
        go_ret
        exact ⟨rfl, HB.out⟩
    · have hn' : (n == 0) = false := by simpa using hn
      obtain rfl : B = false := by rw [← HM.out]; simp [wordOkM, ht, hn]
      clear HM hn ht
      go_enter Tryd.func37, Tryd.ntmps37
      go_wp2
      go_ret
      exact ⟨rfl, HB.out⟩
end Go.Proofs.YtbdfopokimpeiaqDoor

/- spec.DescOk, walked at any Desc. -/
namespace Go.Proofs.YtbdfopokimpeiaqDoor
open Go.ChangeShapes Go.WideShapes Go.ChangeAt Go.RowKit

theorem l1In_yes {x lo hi : Int} (h : inB x lo hi = true) (w : World) : Calls Tryd.prog 15 #[.int .i64 x, .int .i64 lo, .int .i64 hi] w fun e w' => e = .returned (.bool true) ∧ w' = w := by
  have := l1In_g x lo hi w
  rwa [h] at this
theorem l1In_not {x lo hi : Int} (h : inB x lo hi = false) (w : World) : Calls Tryd.prog 15 #[.int .i64 x, .int .i64 lo, .int .i64 hi] w fun e w' => e = .returned (.bool false) ∧ w' = w := by
  have := l1In_g x lo hi w
  rwa [h] at this
/-- What one round of the loop asks. -/
theorem entOk_iff2 {es : List Int} {k : Nat} : entOk es k ↔ (inB (es.getD (k * 3) 0) 0 19 = true ∧ inB (es.getD (k * 3 + 1) 0) 0 1000 = true ∧ inB (es.getD (k * 3 + 2) 0) 0 1000 = true ∧ (0 < k → es.getD ((k - 1) * 3) 0 < es.getD (k * 3) 0)) := by
  unfold inB entOk
  simp only [decide_eq_true_eq]

set_option maxHeartbeats 4000000 in
theorem specDescOk_any (sq st : Int) (ea : Option Addr) (en ec : Nat) (es : List Int) (cd : Int) (ra : Option Addr) (rn rc : Nat) (w : World) (h1 : TripAt w ea en es) :
    Calls Tryd.prog 36 #[DescV sq st ea en ec cd ra rn rc] w fun e w' => e = .returned (.bool (descOkM sq st en es cd rn)) ∧ Below w.heap.size w w' := by
  have H1 : Hid (TripAt w ea en es) := h1
  have hn := h1.2.1
  have hb0 : Below w.heap.size w (w.alloc (.cells (DescC sq st ea en ec cd ra rn rc) 59)) := (Below.refl _ w).alloc (Nat.le_refl _) _
  have HB0 : Hid _ := hb0
  obtain ⟨B, hB⟩ : ∃ B, descOkM sq st en es cd rn = B := ⟨_, rfl⟩
  rw [hB]
  have HM : Hid (descOkM sq st en es cd rn = B) := hB
  clear h1 hb0 hB
  by_cases hq : sq = 0
  · subst hq
    by_cases hs : st = 0
    · subst hs
      by_cases he : en = 0
      · subst he
        by_cases hc : cd = 0
        · subst hc
          have HR : Hid (((rn : Int) == 0) = B) := by
            show _ = _
            rw [← HM.out, Bool.eq_iff_iff]
            simp [descOkM]
          clear HM
          go_enter Tryd.func36, Tryd.ntmps36
          go_wp2
          go_ret
          exact ⟨by rw [HR.out]; rfl, HB0.out⟩
        · have hc' : (cd == 0) = false := by simpa using hc
          obtain rfl : B = false := by rw [← HM.out]; simp [descOkM, hc]
          clear HM hc
          go_enter Tryd.func36, Tryd.ntmps36
          go_wp2
          go_ret
          exact ⟨rfl, HB0.out⟩
      · have he' : ((en : Int) == 0) = false := by simpa using he
        obtain rfl : B = false := by rw [← HM.out]; simp [descOkM, he]
        clear HM he
        go_enter Tryd.func36, Tryd.ntmps36
        go_wp2
        go_ret
        exact ⟨rfl, HB0.out⟩
    · have hs' : (st == 0) = false := by simpa using hs
      obtain rfl : B = false := by rw [← HM.out]; simp [descOkM, hs]
      clear HM hs
      go_enter Tryd.func36, Tryd.ntmps36
      go_wp2
      go_ret
      exact ⟨rfl, HB0.out⟩
  · have hq' : (sq == 0) = false := by simpa using hq
    rcases hA : inB sq 1 1000000 with _ | _
    · obtain rfl : B = false := by rw [← HM.out]; simp [descOkM, hq, hA]
      have HA : Hid (inB sq 1 1000000 = false) := hA
      clear HM hA hq
      go_enter Tryd.func36, Tryd.ntmps36
      go_wp2_with fail
      refine (l1In_not HA.out _).mono ?_
      rintro e w1 ⟨rfl, rfl⟩
      go_wp2
      go_ret
      exact ⟨rfl, HB0.out⟩
    · have HA : Hid (inB sq 1 1000000 = true) := hA
      rcases hS : inB st 1 3 with _ | _
      · obtain rfl : B = false := by rw [← HM.out]; simp [descOkM, hq, hS]
        have HS : Hid (inB st 1 3 = false) := hS
        clear HM hA hS hq
        go_enter Tryd.func36, Tryd.ntmps36
        go_wp2_with fail
        refine (l1In_yes HA.out _).mono ?_
        rintro e w1 ⟨rfl, rfl⟩
        go_wp2_with fail
        refine (l1In_not HS.out _).mono ?_
        rintro e w2 ⟨rfl, rfl⟩
        go_wp2
        go_ret
        exact ⟨rfl, HB0.out⟩
      · have HS : Hid (inB st 1 3 = true) := hS
        have HE : Hid (decide (∀ i, i < en → entOk es i) = B) := by show _ = _; rw [← HM.out]; simp [descOkM, hq, hA, hS]
        clear HM hA hS hq
        by_cases h20 : en ≤ 20
        · have h20' : ¬ (20 : Int) < (en : Int) := by omega
          go_enter Tryd.func36, Tryd.ntmps36
          go_wp2_with fail
          refine (l1In_yes HA.out _).mono ?_
          rintro e w1 ⟨rfl, rfl⟩
          go_wp2_with fail
          refine (l1In_yes HS.out _).mono ?_
          rintro e w2 ⟨rfl, rfl⟩
          go_wp2
          go_loopw [3] (fun i wr => ∃ k : Nat, k ≤ en ∧ i = .int .i64 (k : Int) ∧ (∀ i, i < k → entOk es i) ∧ Box wr w.heap.size (DescC sq st ea en ec cd ra rn rc) 59 ∧ Below w.heap.size w wr) (fun i _ => en - (intOf i).toNat)
          case atStart => exact ⟨0, Nat.zero_le _, rfl, fun i hi => by omega, box_of w _ _, HB0.out⟩
          case round =>
            obtain ⟨k, hk, rfl, hok, hbox, hb⟩ := hrel
            have HOK : Hid (∀ i, i < k → entOk es i) := hok
            have HBOX : Hid _ := hbox
            obtain ⟨_, _, x2, _, _, _, _, _, _, _⟩ := hbox.desc
            have hlt0 := hbox.lt
            clear hok hbox
            by_cases hlt : k < en
            · rcases (H1.out.below hb (Nat.le_refl _)).2.2 with h0 | ⟨p1, o1, rfl, g1⟩
              · omega
              have hk0 : (0 : Int) ≤ (k : Int) := by omega
              have hk1 : (k : Int) < (en : Int) := by omega
              have e1 := g1 (k * 3) (by omega)
              have e2 := g1 (k * 3 + 1) (by omega)
              have e3 := g1 (k * 3 + 2) (by omega)
              have HI : Hid (entOk es k ↔ (inB (es.getD (k * 3) 0) 0 19 = true ∧ inB (es.getD (k * 3 + 1) 0) 0 1000 = true ∧ inB (es.getD (k * 3 + 2) 0) 0 1000 = true ∧ (0 < k → es.getD ((k - 1) * 3) 0 < es.getD (k * 3) 0))) := entOk_iff2
              have e0 : 0 < k → wr.cell? ⟨p1, o1 + (k - 1) * 3, none⟩ = some (I (es.getD ((k - 1) * 3) 0)) := fun _ => g1 ((k - 1) * 3) (by omega)
              have hp1 : p1 < wr.heap.size := World.block_lt_of_cell? wr _ e1
              obtain ⟨x, hx⟩ : ∃ x, es.getD (k * 3) 0 = x := ⟨_, rfl⟩
              obtain ⟨y, hy⟩ : ∃ y, es.getD (k * 3 + 1) 0 = y := ⟨_, rfl⟩
              obtain ⟨z, hz⟩ : ∃ z, es.getD (k * 3 + 2) 0 = z := ⟨_, rfl⟩
              obtain ⟨l, hl⟩ : ∃ l, es.getD ((k - 1) * 3) 0 = l := ⟨_, rfl⟩
              rw [hx, hy, hz, hl] at HI
              rw [hx] at e1
              rw [hl] at e0
              rw [hy, ← Nat.add_assoc] at e2
              rw [hz, ← Nat.add_assoc] at e3
              clear g1 hx hy hz hl
              have HBX : Hid (Below w.heap.size w (wr.alloc (.cells #[.int .i64 x, .int .i64 y, .int .i64 z] 62))) := hb.alloc hb.size _
              have NO : Hid (¬ entOk es k → B = false) := fun hno => by rw [← HE.out]; exact decide_eq_false fun hall => hno (hall k hlt)
              rcases hA : inB x 0 19 with _ | _
              · obtain rfl : B = false := NO.out fun h => by have := (HI.out.1 h).1; rw [hA] at this; cases this
                have HAA : Hid (inB x 0 19 = false) := hA
                clear hA HI NO HE
                go_wp2
                go_quiet (first | (go_at_call 15; with_reducible exact Calls.quiet_of_same (l1In_not HAA.out _)) | fail)
                go_wp2
                go_ret
                exact ⟨rfl, below_drewN6 HBX.out nq⟩
              · have HAA : Hid (inB x 0 19 = true) := hA
                rcases hO : inB y 0 1000 with _ | _
                · obtain rfl : B = false := NO.out fun h => by have := (HI.out.1 h).2.1; rw [hO] at this; cases this
                  have HO : Hid (inB y 0 1000 = false) := hO
                  clear hA hO HI NO HE
                  go_wp2
                  go_quiet (first | (go_at_call 15; first | with_reducible exact Calls.quiet_of_same (l1In_yes HAA.out _) | with_reducible exact Calls.quiet_of_same (l1In_not HO.out _)) | fail)
                  go_wp2
                  go_ret
                  exact ⟨rfl, below_drewN6 HBX.out nq⟩
                · have HO : Hid (inB y 0 1000 = true) := hO
                  rcases hW : inB z 0 1000 with _ | _
                  · obtain rfl : B = false := NO.out fun h => by have := (HI.out.1 h).2.2.1; rw [hW] at this; cases this
                    have HW : Hid (inB z 0 1000 = false) := hW
                    clear hA hO hW HI NO HE
                    go_wp2
                    go_quiet (first | (go_at_call 15; first | with_reducible exact Calls.quiet_of_same (l1In_yes HAA.out _) | with_reducible exact Calls.quiet_of_same (l1In_yes HO.out _) | with_reducible exact Calls.quiet_of_same (l1In_not HW.out _)) | fail)
                    go_wp2
                    go_ret
                    exact ⟨rfl, below_drewN6 HBX.out nq⟩
                  · have HW : Hid (inB z 0 1000 = true) := hW
                    by_cases hk0' : k = 0
                    · have YES : Hid (entOk es k) := HI.out.2 ⟨hA, hO, hW, fun h => by omega⟩
                      have hkz : decide ((0 : Int) < (k : Int)) = false := decide_eq_false (by omega)
                      have HK : Hid (k = 0) := hk0'
                      have hkn : decide (0 < k) = false := decide_eq_false (by omega)
                      clear hA hO hW HI NO hk0' e0
                      go_wp2
                      go_quiet (first | (go_at_call 15; first | with_reducible exact Calls.quiet_of_same (l1In_yes HAA.out _) | with_reducible exact Calls.quiet_of_same (l1In_yes HO.out _) | with_reducible exact Calls.quiet_of_same (l1In_yes HW.out _)) | fail)
                      go_wp2
                      exact ⟨⟨k + 1, by omega, by go_num, fun i hi => by
                        by_cases e : i = k
                        · rw [e]; exact YES.out
                        · exact HOK.out i (by omega), (Box.alloc HBOX.out _).below (below_drewN6 (Below.refl (wr.heap.size + 1) _) nq) (by omega), below_drewN6 HBX.out nq⟩, by simp [intOf]; omega⟩
                    · have e4 := e0 (by omega)
                      obtain ⟨j, rfl⟩ : ∃ j, k = j + 1 := ⟨k - 1, by omega⟩
                      rw [Nat.add_sub_cancel] at e4
                      have hkz : decide ((0 : Int) < ((j + 1 : Nat) : Int)) = true := decide_eq_true (by omega)
                      have hj0 : (0 : Int) ≤ (j : Int) := by omega
                      have hj1 : (j : Int) < (en : Int) := by omega
                      have hjj : (((j + 1 : Nat) : Int)) - 1 = (j : Int) := by omega
                      by_cases hlx : l < x
                      · have YES : Hid (entOk es (j + 1)) := HI.out.2 ⟨hA, hO, hW, fun _ => hlx⟩
                        have hlx' : decide (x ≤ l) = false := decide_eq_false (by omega)
                        clear hA hO hW HI NO hk0' e0 hlx
                        go_wp2
                        go_quiet (first | (go_at_call 15; first | with_reducible exact Calls.quiet_of_same (l1In_yes HAA.out _) | with_reducible exact Calls.quiet_of_same (l1In_yes HO.out _) | with_reducible exact Calls.quiet_of_same (l1In_yes HW.out _)) | fail)
                        go_wp2
                        exact ⟨⟨j + 1 + 1, by omega, by go_num, fun i hi => by
                          by_cases e : i = j + 1
                          · rw [e]; exact YES.out
                          · exact HOK.out i (by omega), (Box.alloc HBOX.out _).below (below_drewN6 (Below.refl (wr.heap.size + 1) _) nq) (by omega), below_drewN6 HBX.out nq⟩, by simp [intOf]; omega⟩
                      · obtain rfl : B = false := NO.out fun h => hlx ((HI.out.1 h).2.2.2 (by omega))
                        have hlx' : decide (x ≤ l) = true := decide_eq_true (by omega)
                        clear hA hO hW HI NO hk0' e0 hlx HE
                        go_wp2
                        go_quiet (first | (go_at_call 15; first | with_reducible exact Calls.quiet_of_same (l1In_yes HAA.out _) | with_reducible exact Calls.quiet_of_same (l1In_yes HO.out _) | with_reducible exact Calls.quiet_of_same (l1In_yes HW.out _)) | fail)
                        go_wp2
                        go_ret
                        exact ⟨rfl, below_drewN6 HBX.out nq⟩
            · obtain rfl : k = en := by omega
              obtain rfl : B = true := by rw [← HE.out]; exact decide_eq_true HOK.out
              go_wp2
              go_ret
              exact ⟨rfl, hb⟩
        · have h20' : (20 : Int) < (en : Int) := by omega
          obtain rfl : B = false := by rw [← HE.out]; exact decide_eq_false fun h => h20 (entOk_few h)
          clear HE
          go_enter Tryd.func36, Tryd.ntmps36
          go_wp2_with fail
          refine (l1In_yes HA.out _).mono ?_
          rintro e w1 ⟨rfl, rfl⟩
          go_wp2_with fail
          refine (l1In_yes HS.out _).mono ?_
          rintro e w2 ⟨rfl, rfl⟩
          go_wp2
          go_ret
          exact ⟨rfl, HB0.out⟩
end Go.Proofs.YtbdfopokimpeiaqDoor

/- spec.MemOk, walked at any words and Descs. -/
namespace Go.Proofs.YtbdfopokimpeiaqDoor
open Go.ChangeShapes Go.WideShapes Go.ChangeAt Go.RowKit

abbrev MemV (wa : Option Addr) (m wc : Nat) (da : Option Addr) (n dc : Nat) : Value := .agg #[.slice wa m wc, .slice da n dc]
def DescGood (d : DK) : Prop := descOkM d.sq d.st d.en d.es d.cd d.rn = true
/-- A word that can be: a number, or a mark of a try that has an entry there. -/
def WordGood (fs : List Int) (ds : List DK) (i : Nat) : Prop :=
  wordOkM (fs.getD (i * 3) 0) (fs.getD (i * 3 + 1) 0) (fs.getD (i * 3 + 2) 0) ds.length = true ∧
  (0 < fs.getD (i * 3 + 1) 0 → (entM (dk ds (fs.getD (i * 3 + 1) 0 - 1).toNat).es (dk ds (fs.getD (i * 3 + 1) 0 - 1).toNat).en i).2.2.2 = true ∧ (dk ds (fs.getD (i * 3 + 1) 0 - 1).toNat).sq = fs.getD (i * 3 + 2) 0)
def MemGood (fs : List Int) (m : Nat) (ds : List DK) : Prop := m = 20 ∧ (1 ≤ ds.length ∧ ds.length ≤ 4) ∧ (∀ i, i < ds.length → DescGood (dk ds i)) ∧ ∀ i, i < m → WordGood fs ds i
/-- The lists of the Descs are as long as there is room for, at most. -/
def CapAt (w : World) (a : Option Addr) (n : Nat) (ds : List DK) : Prop :=
  n = 0 ∨ ∃ b o, a = some ⟨b, o, none⟩ ∧ ∀ i, i < n → ∃ ea ec, w.cell? ⟨b, o + i * 5 + 2, none⟩ = some (.slice ea (dk ds i).en ec) ∧ (dk ds i).en ≤ ec
theorem CapAt.below {w w' : World} {a : Option Addr} {n : Nat} {ds : List DK} (h : CapAt w a n ds) {B : Nat} (hb : Below B w w') (hB : w.heap.size ≤ B) : CapAt w' a n ds := by
  rcases h with h | ⟨b, o, h1, h2⟩
  · exact .inl h
  · refine .inr ⟨b, o, h1, fun i hi => ?_⟩
    obtain ⟨ea, ec, h3, h4⟩ := h2 i hi
    exact ⟨ea, ec, (hb.cell (Nat.lt_of_lt_of_le (World.block_lt_of_cell? w _ h3) hB)).trans h3, h4⟩
theorem Box.two {w : World} {b : Nat} {T : TypeId} {x y : Value} (h : Box w b #[x, y] T) : w.cell? ⟨b, 0, none⟩ = some x ∧ w.cell? ⟨b, 1, none⟩ = some y ∧ w.frozen? ⟨b, 0, none⟩ = false ∧ w.frozen? ⟨b, 1, none⟩ = false :=
  ⟨h.cell 0, h.cell 1, h.frozen 0, h.frozen 1⟩
theorem below7 {B : Nat} {w w' : World} (h : Below B w w') : ∀ n, Below B w (w'.drewN n)
  | 0 => h
  | n + 1 => (below7 h n).drew
theorem wordOkM_t {n t s th : Int} (h : wordOkM n t s th = true) : 0 ≤ t ∧ (0 < t → t ≤ th) := by
  unfold wordOkM at h
  split at h
  · omega
  · simp only [Bool.and_eq_true] at h
    have := inB_val h.2.1
    omega

set_option maxHeartbeats 4000000 in
theorem specMemOk_any (wa : Option Addr) (m wc : Nat) (fs : List Int) (da : Option Addr) (n dc : Nat) (ds : List DK) (w : World) (h1 : TripAt w wa m fs) (h2 : DescAt w da n ds) :
    Calls Tryd.prog 16 #[MemV wa m wc da n dc] w fun e w' => ∃ ok, (e = .returned (.bool ok) ∧ (ok = true ↔ MemGood fs m ds)) ∧ Below w.heap.size w w' := by
  have hm := h1.2.1
  have hn := h2.2.1
  have HL : Hid (ds.length = n) := h2.1
  obtain ⟨W, hW⟩ : ∃ W, w.alloc (.cells #[.slice wa m wc, .slice da n dc] 29) = W := ⟨_, rfl⟩
  have hb0 : Below w.heap.size w W := by rw [← hW]; exact (Below.refl _ w).alloc (Nat.le_refl _) _
  have BX : Hid (Box W w.heap.size #[.slice wa m wc, .slice da n dc] 29) := by rw [← hW]; exact box_of w _ _
  have H1 : Hid (TripAt W wa m fs) := h1.below hb0 (Nat.le_refl _)
  have H2 : Hid (DescAt W da n ds) := h2.below hb0 (Nat.le_refl _)
  have HB0 : Hid (Below w.heap.size w W) := hb0
  have HW : Hid (w.alloc (.cells #[.slice wa m wc, .slice da n dc] 29) = W) := hW
  clear h1 h2 hW hb0
  by_cases hm20 : m = 20
  case neg =>
    have hne : ((m : Int) != 20) = true := by simp; omega
    have HNO : Hid (¬ MemGood fs m ds) := fun h => hm20 h.1
    clear hm20
    go_enter Tryd.func16, Tryd.ntmps16
    go_wp2
    go_ret
    exact ⟨false, ⟨rfl, by simp [HNO.out]⟩, by rw [HW.out]; exact HB0.out⟩
  subst hm20
  rcases hI : inB (n : Int) 1 4 with _ | _
  · have HI : Hid (inB (n : Int) 1 4 = false) := hI
    have HNO : Hid (¬ MemGood fs 20 ds) := fun h => by
      have h2 := h.2.1
      rw [HL.out] at h2
      rw [inB_yes (by omega)] at hI
      cases hI
    clear hI
    go_enter Tryd.func16, Tryd.ntmps16
    go_wp2_with fail
    refine (l1In_g _ 1 4 _).mono ?_
    rintro e w1 ⟨rfl, rfl⟩
    rw [HI.out]
    go_wp2
    go_ret
    exact ⟨false, ⟨rfl, by simp [HNO.out]⟩, by rw [HW.out]; exact HB0.out⟩
  have hn4 := inB_val hI
  have HI : Hid (inB (n : Int) 1 4 = true) := hI
  clear hI
  go_enter Tryd.func16, Tryd.ntmps16
  go_wp2_with fail
  refine (l1In_g _ 1 4 _).mono ?_
  rintro e w1 ⟨rfl, hw1⟩
  rw [HI.out]
  obtain rfl : W = w1 := by rw [hw1]; exact HW.out.symm
  clear hw1
  go_wp2
  go_loopw [3] (fun i wr => ∃ k : Nat, k ≤ n ∧ i = .int .i64 (k : Int) ∧ (∀ i, i < k → DescGood (dk ds i)) ∧ Below W.heap.size W wr) (fun i _ => n - (intOf i).toNat)
  case atStart => exact ⟨0, Nat.zero_le _, rfl, fun i h => by omega, Below.refl _ _⟩
  case round =>
    obtain ⟨k, hk, rfl, hall, hb⟩ := hrel
    have HALL : Hid (∀ i, i < k → DescGood (dk ds i)) := hall
    have HB : Hid (Below W.heap.size W wr) := hb
    have BR : Hid (Box wr w.heap.size #[.slice wa 20 wc, .slice da n dc] 29) := BX.out.below hb BX.out.lt
    have c0 := BR.out.cell 0
    have c1 := BR.out.cell 1
    simp only [List.getElem?_toArray, List.getElem?_cons_zero, List.getElem?_cons_succ] at c0 c1
    clear hall hb
    by_cases hlt : k < n
    · have hk0 : (0 : Int) ≤ (k : Int) := by omega
      have hk1 : (k : Int) < (n : Int) := by omega
      rcases (H2.out.below HB.out (Nat.le_refl _)).2.2 with h0 | ⟨q1, o2, rfl, g2⟩
      · omega
      obtain ⟨ea, ec, ra, rc, h5, h6, h7⟩ := g2 k hlt
      obtain ⟨f0, f1, f2, f3, f4⟩ := h5
      have H6 : Hid (TripAt wr ea (dk ds k).en (dk ds k).es) := h6
      obtain ⟨D, hD⟩ : ∃ D, dk ds k = D := ⟨_, rfl⟩
      have HD : Hid (dk ds k = D) := hD
      rw [hD] at H6 f0 f1 f2 f3 f4
      obtain ⟨dsq, dst, den, des, dcd, drn, drs⟩ := D
      dsimp only at H6 f0 f1 f2 f3 f4
      clear g2 h6 h7 hD
      go_wp2_with fail
      refine (specDescOk_any dsq dst ea den ec des dcd ra drn rc _ H6.out).mono ?_
      rintro e w2 ⟨rfl, hb2⟩
      have HB2 : Hid (Below W.heap.size W w2) := HB.out.trans (hb2.mono HB.out.size)
      clear hb2 c0 c1 f0 f1 f2 f3 f4
      rcases hok : descOkM dsq dst den des dcd drn with _ | _
      · have HNO : Hid (¬ MemGood fs 20 ds) := fun h => by
          have h3 := h.2.2.1 k (by rw [HL.out]; exact hlt)
          rw [HD.out] at h3
          unfold DescGood at h3
          rw [hok] at h3
          cases h3
        clear hok
        go_wp2
        go_ret
        exact ⟨false, ⟨rfl, by simp [HNO.out]⟩, HB0.out.trans (HB2.out.mono HB0.out.size)⟩
      · have HOK : Hid (DescGood (dk ds k)) := by show DescGood _; rw [HD.out]; exact hok
        clear hok
        go_wp2
        exact ⟨⟨k + 1, by omega, by go_num, fun i hi => by
          by_cases e : i = k
          · rw [e]; exact HOK.out
          · exact HALL.out i (by omega), HB2.out⟩, by simp [intOf]; omega⟩
    · obtain rfl : k = n := by omega
      have HDS : Hid (∀ i, i < ds.length → DescGood (dk ds i)) := by show ∀ i, _; rw [HL.out]; exact HALL.out
      clear HALL
      go_wp2
      go_loopw [4] (fun i wr => ∃ k : Nat, k ≤ 20 ∧ i = .int .i64 (k : Int) ∧ (∀ i, i < k → WordGood fs ds i) ∧ Below W.heap.size W wr) (fun i _ => 20 - (intOf i).toNat)
      case atStart => exact ⟨0, Nat.zero_le _, rfl, fun i h => by omega, HB.out⟩
      case round =>
        obtain ⟨i, hi, rfl, hall, hb⟩ := hrel
        clear BR c0 c1 HB
        have HALL : Hid (∀ j, j < i → WordGood fs ds j) := hall
        have HB : Hid (Below W.heap.size W wr) := hb
        have BR : Hid (Box wr w.heap.size #[.slice wa 20 wc, .slice da k dc] 29) := BX.out.below hb BX.out.lt
        have c0 := BR.out.cell 0
        have c1 := BR.out.cell 1
        simp only [List.getElem?_toArray, List.getElem?_cons_zero, List.getElem?_cons_succ] at c0 c1
        have l0 := BR.out.lt
        clear hall hb
        by_cases hli : i < 20
        · have hi0 : (0 : Int) ≤ (i : Int) := by omega
          have hi1 : (i : Int) < 20 := by omega
          rcases (H1.out.below HB.out (Nat.le_refl _)).2.2 with h0 | ⟨p1, o1, rfl, g1⟩
          · omega
          have e1 := g1 (i * 3) (by omega)
          have e2 := g1 (i * 3 + 1) (by omega)
          have e3 := g1 (i * 3 + 2) (by omega)
          have HWG : Hid (WordGood fs ds i ↔ (wordOkM (fs.getD (i * 3) 0) (fs.getD (i * 3 + 1) 0) (fs.getD (i * 3 + 2) 0) k = true ∧ (0 < fs.getD (i * 3 + 1) 0 → (entM (dk ds (fs.getD (i * 3 + 1) 0 - 1).toNat).es (dk ds (fs.getD (i * 3 + 1) 0 - 1).toNat).en i).2.2.2 = true ∧ (dk ds (fs.getD (i * 3 + 1) 0 - 1).toNat).sq = fs.getD (i * 3 + 2) 0))) := by
            show _ ↔ _
            unfold WordGood
            rw [HL.out]
          obtain ⟨x, hx⟩ : ∃ x, fs.getD (i * 3) 0 = x := ⟨_, rfl⟩
          obtain ⟨t, ht⟩ : ∃ y, fs.getD (i * 3 + 1) 0 = y := ⟨_, rfl⟩
          obtain ⟨s, hs⟩ : ∃ z, fs.getD (i * 3 + 2) 0 = z := ⟨_, rfl⟩
          rw [hx, ht, hs] at HWG
          rw [hx] at e1
          rw [ht, ← Nat.add_assoc] at e2
          rw [hs, ← Nat.add_assoc] at e3
          have HNG : Hid (¬ WordGood fs ds i → ¬ MemGood fs 20 ds) := fun h g => h (g.2.2.2 i hli)
          have HYG : Hid (WordGood fs ds i → ∀ j, j < i + 1 → WordGood fs ds j) := fun h j hj => by
            by_cases e : j = i
            · rw [e]; exact h
            · exact HALL.out j (by omega)
          clear g1 hx ht hs
          go_wp2_with fail
          refine (specWordOk_any x t s (k : Int) _).mono ?_
          rintro e w3 ⟨rfl, hb3⟩
          have hbx : Below wr.heap.size wr (wr.alloc (.cells #[.int .i64 x, .int .i64 t, .int .i64 s] 42)) := (Below.refl _ _).alloc (Nat.le_refl _) _
          have hb23 : Below wr.heap.size wr w3 := hbx.trans (hb3.mono hbx.size)
          have HB3 : Hid (Below W.heap.size W w3) := HB.out.trans (hb23.mono HB.out.size)
          have X3 : Hid (Box w3 wr.heap.size #[.int .i64 x, .int .i64 t, .int .i64 s] 42) := (box_of wr _ _).below hb3 (by simp)
          have B3 : Hid (Box w3 w.heap.size #[.slice (some ⟨p1, o1, none⟩) 20 wc, .slice da k dc] 29) := BR.out.below hb23 BR.out.lt
          obtain ⟨x0, x1, x2, _, _, _⟩ := X3.out.three
          obtain ⟨b3, hb3e⟩ : ∃ b3, wr.heap.size = b3 := ⟨_, rfl⟩
          rw [hb3e] at x0 x1 x2 X3 ⊢
          clear hb3 hbx hb23 e1 e2 e3 c0 c1 l0 hb3e BR
          rcases hok : wordOkM x t s (k : Int) with _ | _
          · have HNO : Hid (¬ MemGood fs 20 ds) := HNG.out (fun h => by
              have := (HWG.out.1 h).1
              rw [hok] at this
              cases this)
            clear hok HNG HYG
            go_wp2
            go_ret
            exact ⟨false, ⟨rfl, by simp [HNO.out]⟩, HB0.out.trans (HB3.out.mono HB0.out.size)⟩
          have HOK : Hid (wordOkM x t s (k : Int) = true) := hok
          have htv := wordOkM_t hok
          clear hok
          by_cases ht : 0 < t
          case neg =>
            have ht' : decide (0 < t) = false := by simpa using ht
            have HG : Hid (WordGood fs ds i) := HWG.out.2 ⟨HOK.out, fun h => absurd h ht⟩
            clear ht
            go_wp2
            exact ⟨⟨i + 1, by omega, by go_num, HYG.out HG.out, HB3.out⟩, by simp [intOf]; omega⟩
          obtain ⟨j, rfl⟩ : ∃ j : Nat, t = (j : Int) + 1 := ⟨(t - 1).toNat, by omega⟩
          have hj0 : (0 : Int) ≤ (j : Int) := by omega
          have hj1 : (j : Int) < (k : Int) := by have := htv.2 ht; omega
          rcases (H2.out.below HB3.out (Nat.le_refl _)).2.2 with h0 | ⟨q1, o2, rfl, g2⟩
          · omega
          obtain ⟨ea, ec, ra, rc, h5, h6, h7⟩ := g2 j (by omega)
          obtain ⟨f0, f1, f2, f3, f4⟩ := h5
          have H6 : Hid (TripAt w3 ea (dk ds j).en (dk ds j).es) := h6
          have H5 : Hid (Five w3 q1 (o2 + j * 5) (dk ds j) ea ec ra rc) := ⟨f0, f1, f2, f3, f4⟩
          have HWG2 : Hid (WordGood fs ds i ↔ ((entM (dk ds j).es (dk ds j).en i).2.2.2 = true ∧ (dk ds j).sq = s)) := by
            show _ ↔ _
            rw [HWG.out, show ((j : Int) + 1 - 1).toNat = j by omega]
            exact ⟨fun h => h.2 ht, fun h => ⟨HOK.out, fun _ => h⟩⟩
          obtain ⟨D, hD⟩ : ∃ D, dk ds j = D := ⟨_, rfl⟩
          rw [hD] at HWG2 H6 H5 f0 f1 f2 f3 f4
          obtain ⟨r, hr⟩ : ∃ r, entM D.es D.en i = r := ⟨_, rfl⟩
          rw [hr] at HWG2
          have HR : Hid (entM D.es D.en i = r) := hr
          obtain ⟨r0, r1, r2, r3⟩ := r
          obtain ⟨dsq, dst, den, des, dcd, drn, drs⟩ := D
          dsimp only at HWG2 H6 f0 f1 f2 f3 f4 HR
          have c0 := B3.out.cell 0
          have c1 := B3.out.cell 1
          simp only [List.getElem?_toArray, List.getElem?_cons_zero, List.getElem?_cons_succ] at c0 c1
          clear g2 h6 h7 hD hr HWG
          go_wp2_with fail
          refine (specEntries_any dsq dst ea den ec des dcd ra drn rc i _ H6.out).mono ?_
          rintro e w4 ⟨rfl, hb4⟩
          rw [HR.out]
          dsimp only
          have HB4 : Hid (Below W.heap.size W w4) := HB3.out.trans (hb4.mono HB3.out.size)
          obtain ⟨x0', x1', x2', _, _, _⟩ := (X3.out.below hb4 X3.out.lt).three
          have c0' := (B3.out.below hb4 B3.out.lt).cell 0
          have c1' := (B3.out.below hb4 B3.out.lt).cell 1
          simp only [List.getElem?_toArray, List.getElem?_cons_zero, List.getElem?_cons_succ] at c0' c1'
          obtain ⟨y0, y1, y2, y3, y4⟩ := H5.out.below hb4 (Nat.le_refl _)
          dsimp only at y0 y1 y2 y3 y4
          have l1 : b3 < w4.heap.size := (X3.out.below hb4 X3.out.lt).lt
          have l2 : w.heap.size < w4.heap.size := (B3.out.below hb4 B3.out.lt).lt
          have l3 : q1 < w4.heap.size := World.block_lt_of_cell? w4 _ y0
          have HB5 : Hid (Below W.heap.size W (w4.alloc (.cells #[.int .i64 r0, .int .i64 r1, .int .i64 r2] 62))) := HB4.out.alloc HB4.out.size _
          clear hb4 x0 x1 x2 c0 c1 f0 f1 f2 f3 f4
          rcases r3 with _ | _
          · have HNO : Hid (¬ MemGood fs 20 ds) := HNG.out (fun h => by have := (HWG2.out.1 h).1; cases this)
            clear HNG HYG HWG2
            go_wp2
            go_quiet (fail)
            go_wp2
            go_ret
            exact ⟨false, ⟨rfl, by simp [HNO.out]⟩, below7 (HB0.out.trans (HB5.out.mono HB0.out.size)) nq⟩
          · by_cases hsq : dsq = s
            · have hsq' : (dsq != s) = false := by simp [hsq]
              have HG : Hid (WordGood fs ds i) := HWG2.out.2 ⟨rfl, hsq⟩
              clear hsq HNG HWG2
              go_wp2
              go_quiet (fail)
              go_wp2
              exact ⟨⟨i + 1, by omega, by go_num, HYG.out HG.out, below7 HB5.out nq⟩, by simp [intOf]; omega⟩
            · have hsq' : (dsq != s) = true := by simp [hsq]
              have HNO : Hid (¬ MemGood fs 20 ds) := HNG.out (fun h => hsq (HWG2.out.1 h).2)
              clear hsq HNG HYG HWG2
              go_wp2
              go_quiet (fail)
              go_wp2
              go_ret
              exact ⟨false, ⟨rfl, by simp [HNO.out]⟩, below7 (HB0.out.trans (HB5.out.mono HB0.out.size)) nq⟩
        · obtain rfl : i = 20 := by omega
          have HG : Hid (MemGood fs 20 ds) := ⟨rfl, by rw [HL.out]; omega, HDS.out, HALL.out⟩
          go_wp2
          go_ret
          exact ⟨true, ⟨rfl, by simp [HG.out]⟩, HB0.out.trans (HB.out.mono HB0.out.size)⟩
end Go.Proofs.YtbdfopokimpeiaqDoor

/- The law's own functions on a Mem: szMem, toMem, eqMem; a Mem that came in, opened. -/
namespace Go.Proofs.YtbdfopokimpeiaqDoor
open Go.ChangeShapes Go.WideShapes Go.ChangeAt Go.RowKit Go.Joins

theorem Own5.set {w : World} {g : Nat} {vs : List Value} {d : DK} {i p q : Nat} (h : Own5 w g vs d i p q) {a : Addr} (ha : a.block < g) (u : Value) : Own5 (w.setCell a u) g vs d i p q :=
  ⟨h.at5, h.gp, h.pq, ownsRow_setCell_below h.ents (Nat.lt_trans ha h.gp) u, ownsRow_setCell_below h.ints (Nat.lt_trans ha (Nat.lt_trans h.gp h.pq)) u⟩
theorem DescOwn.set {w : World} {g n k : Nat} {ds : List DK} (h : DescOwn w g n ds k) {a : Addr} (ha : a.block < g) (u : Value) : DescOwn (w.setCell a u) g n ds k := by
  obtain ⟨vs, P, Q, h1, h2⟩ := h
  exact ⟨vs, P, Q, ownsRow_setCell_below h1 ha u, fun i hi => ⟨(h2 i hi).1.set ha u, (h2 i hi).2⟩⟩
theorem DescOwn.caps {w : World} {g n : Nat} {ds : List DK} (h : DescOwn w g n ds n) : CapAt w (some ⟨g, 0, none⟩) n ds := by
  obtain ⟨vs, P, Q, h1, h2⟩ := h
  refine .inr ⟨g, 0, rfl, fun i hi => ?_⟩
  obtain ⟨⟨⟨_, _, a2, _, _⟩, _, _, _, _⟩, _⟩ := h2 i hi
  exact ⟨_, _, by rw [Nat.zero_add]; exact own_cellV h1 a2, Nat.le_refl _⟩
theorem DescPre.below {w w' : World} {a : Option Addr} {n : Nat} {ds : List DK} (h : DescPre w a n ds) {B : Nat} (hb : Below B w w') (hB : w.heap.size ≤ B) : DescPre w' a n ds := by
  obtain ⟨q0, q1, q2 | ⟨b, o, q3, q4⟩⟩ := h
  · exact ⟨q0, q1, .inl q2⟩
  · refine ⟨q0, q1, .inr ⟨b, o, q3, fun i hi => ?_⟩⟩
    obtain ⟨ea, ec, ra, rc, z5, z6, z7, z8, z9⟩ := q4 i hi
    exact ⟨ea, ec, ra, rc, z5.below hb hB, z6, z7, fun hh => (z8 hh).below hb hB, fun hh => (z9 hh).below hb hB⟩

set_option maxHeartbeats 1000000 in
theorem eqMem_same (a1 a2 d1 d2 : Option Addr) (m n c1 c2 e1 e2 : Nat) (fs : List Int) (ds : List DK) (w : World) (h1 : TripAt w a1 m fs) (h2 : TripAt w a2 m fs) (h3 : DescAt w d1 n ds) (h4 : DescAt w d2 n ds) :
    Calls Tryd.prog 8 #[MemV a1 m c1 d1 n e1, MemV a2 m c2 d2 n e2] w fun e w' => e = .returned (.bool true) ∧ Below w.heap.size w w' := by
  have H1 : Hid (TripAt w a1 m fs) := h1
  have H2 : Hid (TripAt w a2 m fs) := h2
  have H3 : Hid (DescAt w d1 n ds) := h3
  have H4 : Hid (DescAt w d2 n ds) := h4
  clear h1 h2 h3 h4
  go_enter Tryd.func8, Tryd.ntmps8
  go_wp2_with fail
  obtain ⟨W, hW⟩ : ∃ W, (w.alloc (.cells #[.slice a1 m c1, .slice d1 n e1] 29)).alloc (.cells #[.slice a2 m c2, .slice d2 n e2] 29) = W := ⟨_, rfl⟩
  have hb0 : Below w.heap.size w W := by rw [← hW]; exact ((Below.refl _ w).alloc (Nat.le_refl _) _).alloc (by simp) _
  have R1 : Hid (Box W w.heap.size #[.slice a1 m c1, .slice d1 n e1] 29) := by rw [← hW]; exact (box_of w _ _).alloc _
  have R2 : Hid (Box W (w.heap.size + 1) #[.slice a2 m c2, .slice d2 n e2] 29) := by
    have := box_of (w.alloc (.cells #[.slice a1 m c1, .slice d1 n e1] 29)) #[.slice a2 m c2, .slice d2 n e2] 29
    rw [hW] at this
    simp at this
    exact this
  rw [hW]
  clear hW
  refine (eqWordS_any a1 a2 m m c1 c2 fs fs _ (H1.out.below hb0 (Nat.le_refl _)) (H2.out.below hb0 (Nat.le_refl _))).mono ?_
  rintro e w1 ⟨rfl, hb1⟩
  rw [show decide (fs = fs) = true from decide_eq_true rfl]
  have HB : Hid (Below w.heap.size w w1) := hb0.trans (hb1.mono hb0.size)
  obtain ⟨x0, x1, _, _⟩ := (R1.out.below hb1 R1.out.lt).two
  obtain ⟨y0, y1, _, _⟩ := (R2.out.below hb1 R2.out.lt).two
  clear hb0 hb1
  go_wp2_with fail
  refine (eqDescS_same d1 d2 n e1 e2 ds _ (H3.out.below HB.out (Nat.le_refl _)) (H4.out.below HB.out (Nat.le_refl _))).mono ?_
  rintro e w2 ⟨rfl, hb2⟩
  have hall : Below w.heap.size w w2 := HB.out.trans (hb2.mono HB.out.size)
  clear hb2
  go_wp2
  go_ret
  exact ⟨rfl, hall⟩
end Go.Proofs.YtbdfopokimpeiaqDoor

/- A Mem of the call's own: its lists lie in blocks of their own, no two in one. No program. -/
namespace Go.Proofs.YtbdfopokimpeiaqDoor
open Go.ChangeShapes Go.WideShapes Go.ChangeAt Go.RowKit Go.Joins

theorem owns_heap {w w' : World} {base : Nat} {e : TypeId} {size n : Nat} {v : Value} {xs : List Value} (h : w.ownsRow base e size v n xs) (he : ∀ k, v.ownBlock = some k → w'.heap[k]? = w.heap[k]?) : w'.ownsRow base e size v n xs := by
  refine ⟨h.1, ?_⟩
  rcases h.2 with h2 | ⟨g, cap, cur, rfl, hg, hh, r⟩
  · exact .inl h2
  · exact .inr ⟨g, cap, cur, rfl, hg, by rw [he g rfl]; exact hh, r⟩
theorem owns_forms {w : World} {base : Nat} {e : TypeId} {size n : Nat} {v : Value} {xs : List Value} (h : w.ownsRow base e size v n xs) : (v = .slice none 0 0 ∧ n = 0) ∨ ∃ g cap, v = .slice (some ⟨g, 0, none⟩) n cap := by
  rcases h.2 with h2 | ⟨g, cap, cur, hv, _⟩
  · exact .inl h2
  · exact .inr ⟨g, cap, hv⟩
theorem owns_slice {w : World} {base : Nat} {e : TypeId} {size n : Nat} {v : Value} {xs : List Value} (h : w.ownsRow base e size v n xs) : ∃ a c, v = .slice a n c ∧ n ≤ c := by
  rcases h.2 with ⟨h2, h3⟩ | ⟨g, cap, cur, hv, _, _, hc, _⟩
  · exact ⟨none, 0, by rw [h2, h3], by omega⟩
  · exact ⟨_, cap, hv, hc⟩
theorem owns_trip {w : World} {base : Nat} {e : TypeId} {n c : Nat} {a : Option Addr} {fs : List Int} (h : w.ownsRow base e 3 (.slice a n c) n (fs.map I)) (hn : n ≤ 1048576) : TripAt w a n fs := by
  rcases owns_forms h with ⟨h2, h3⟩ | ⟨g, cap, hv⟩
  · subst h3
    exact ⟨by have := h.1; simpa using this, by omega, .inl rfl⟩
  · cases hv
    exact own_tripAt h hn
theorem owns_ints {w : World} {base : Nat} {e : TypeId} {n c : Nat} {a : Option Addr} {fs : List Int} (h : w.ownsRow base e 1 (.slice a n c) n (fs.map I)) (hn : n ≤ 1048576) : IntAt w a n fs := by
  obtain ⟨a', c', hv, hi⟩ := own_at h (by omega)
  cases hv
  exact hi
/-- No two of the lists lie in one block. -/
def Sep (F : Nat → Value) (N : Nat) : Prop := ∀ a b, a < N → b < N → a ≠ b → ∀ k, (F a).ownBlock = some k → (F b).ownBlock ≠ some k
/-- The i-th five of the list are a Desc with the lists v and u. -/
def AtF (vs : List Value) (i : Nat) (d : DK) (v u : Value) : Prop :=
  vs[i * 5]? = some (I d.sq) ∧ vs[i * 5 + 1]? = some (I d.st) ∧ vs[i * 5 + 2]? = some v ∧ vs[i * 5 + 3]? = some (I d.cd) ∧ vs[i * 5 + 4]? = some u
theorem AtF.set {vs : List Value} {i : Nat} {d : DK} {v u : Value} (h : AtF vs i d v u) {j : Nat} (hj : j < i * 5 ∨ i * 5 + 4 < j) (x : Value) : AtF (vs.set j x) i d v u := by
  obtain ⟨h0, h1, h2, h3, h4⟩ := h
  unfold AtF
  rw [List.getElem?_set_ne (by omega), List.getElem?_set_ne (by omega), List.getElem?_set_ne (by omega), List.getElem?_set_ne (by omega), List.getElem?_set_ne (by omega)]
  exact ⟨h0, h1, h2, h3, h4⟩
/-- Descs of the call's own: F 1 is the list, F (2 + 2 * i) and F (3 + 2 * i) are the lists of the i-th. -/
structure DescO (w : World) (base : Nat) (F : Nat → Value) (n : Nat) (ds : List DK) : Prop where
  len : ds.length = n
  descs : ∃ vs, w.ownsRow base 59 5 (F 1) n vs ∧ ∀ i, i < n → AtF vs i (dk ds i) (F (2 + 2 * i)) (F (3 + 2 * i))
  ents : ∀ i, i < n → w.ownsRow base 62 3 (F (2 + 2 * i)) (dk ds i).en ((dk ds i).es.map I)
  ints : ∀ i, i < n → w.ownsRow base 3 1 (F (3 + 2 * i)) (dk ds i).rn ((dk ds i).rs.map I)
  sep : Sep F (2 + 2 * n)
/-- A Mem of the call's own: F 0 are its words. -/
structure MemO (w : World) (base : Nat) (F : Nat → Value) (m : Nat) (fs : List Int) (n : Nat) (ds : List DK) : Prop where
  words : w.ownsRow base 42 3 (F 0) m (fs.map I)
  descO : DescO w base F n ds
abbrev MemF (F : Nat → Value) : Value := .agg #[F 0, F 1]
def Small (n : Nat) (ds : List DK) : Prop := ∀ i, i < n → (dk ds i).en ≤ 1048576 ∧ (dk ds i).rn ≤ 1048576
theorem DescO.heap {w w' : World} {base : Nat} {F : Nat → Value} {n : Nat} {ds : List DK} (h : DescO w base F n ds) (he : ∀ a, 1 ≤ a → a < 2 + 2 * n → ∀ k, (F a).ownBlock = some k → w'.heap[k]? = w.heap[k]?) : DescO w' base F n ds := by
  obtain ⟨vs, h1, h2⟩ := h.descs
  exact ⟨h.len, ⟨vs, owns_heap h1 (he 1 (by omega) (by omega)), h2⟩, fun i hi => owns_heap (h.ents i hi) (he _ (by omega) (by omega)), fun i hi => owns_heap (h.ints i hi) (he _ (by omega) (by omega)), h.sep⟩
theorem DescO.below {w w' : World} {base : Nat} {F : Nat → Value} {n : Nat} {ds : List DK} (h : DescO w base F n ds) {B : Nat} (hb : Below B w w') (hB : w.heap.size ≤ B) : DescO w' base F n ds := by
  obtain ⟨vs, h1, h2⟩ := h.descs
  exact ⟨h.len, ⟨vs, owns_below h1 hb hB, h2⟩, fun i hi => owns_below (h.ents i hi) hb hB, fun i hi => owns_below (h.ints i hi) hb hB, h.sep⟩
theorem MemO.below {w w' : World} {base : Nat} {F : Nat → Value} {m : Nat} {fs : List Int} {n : Nat} {ds : List DK} (h : MemO w base F m fs n ds) {B : Nat} (hb : Below B w w') (hB : w.heap.size ≤ B) : MemO w' base F m fs n ds :=
  ⟨owns_below h.words hb hB, h.descO.below hb hB⟩
theorem MemO.heap {w w' : World} {base : Nat} {F : Nat → Value} {m : Nat} {fs : List Int} {n : Nat} {ds : List DK} (h : MemO w base F m fs n ds) (he : ∀ a, a < 2 + 2 * n → ∀ k, (F a).ownBlock = some k → w'.heap[k]? = w.heap[k]?) : MemO w' base F m fs n ds :=
  ⟨owns_heap h.words (he 0 (by omega)), h.descO.heap fun a _ ha => he a ha⟩
theorem DescO.blk {w : World} {base : Nat} {F : Nat → Value} {n : Nat} {ds : List DK} (h : DescO w base F n ds) : ∀ a, 1 ≤ a → a < 2 + 2 * n → ∀ k, (F a).ownBlock = some k → base ≤ k ∧ k < w.heap.size := by
  intro a h1 ha k hk
  obtain ⟨vs, h2, _⟩ := h.descs
  by_cases e1 : a = 1
  · subst e1; exact h2.lt k hk
  by_cases e2 : a % 2 = 0
  · obtain ⟨i, rfl⟩ : ∃ i, a = 2 + 2 * i := ⟨(a - 2) / 2, by omega⟩
    exact (h.ents i (by omega)).lt k hk
  · obtain ⟨i, rfl⟩ : ∃ i, a = 3 + 2 * i := ⟨(a - 3) / 2, by omega⟩
    exact (h.ints i (by omega)).lt k hk
theorem MemO.blk {w : World} {base : Nat} {F : Nat → Value} {m : Nat} {fs : List Int} {n : Nat} {ds : List DK} (h : MemO w base F m fs n ds) : ∀ a, a < 2 + 2 * n → ∀ k, (F a).ownBlock = some k → base ≤ k ∧ k < w.heap.size := by
  intro a ha k hk
  by_cases e0 : a = 0
  · subst e0; exact h.words.lt k hk
  · exact h.descO.blk a (by omega) ha k hk
theorem DescO.weaken {w : World} {base base' : Nat} {F : Nat → Value} {n : Nat} {ds : List DK} (h : DescO w base F n ds) (hb : base' ≤ base) : DescO w base' F n ds := by
  obtain ⟨vs, h1, h2⟩ := h.descs
  exact ⟨h.len, ⟨vs, own_weaken h1 hb, h2⟩, fun i hi => own_weaken (h.ents i hi) hb, fun i hi => own_weaken (h.ints i hi) hb, h.sep⟩
theorem MemO.weaken {w : World} {base base' : Nat} {F : Nat → Value} {m : Nat} {fs : List Int} {n : Nat} {ds : List DK} (h : MemO w base F m fs n ds) (hb : base' ≤ base) : MemO w base' F m fs n ds :=
  ⟨own_weaken h.words hb, h.descO.weaken hb⟩
/-- Its words, its Descs, as lists in memory. -/
theorem DescO.at {w : World} {base : Nat} {F : Nat → Value} {n : Nat} {ds : List DK} (h : DescO w base F n ds) (hn : n ≤ 1048576) (hs : Small n ds) : ∃ a c, F 1 = .slice a n c ∧ DescAt w a n ds ∧ CapAt w a n ds := by
  obtain ⟨vs, h1, h2⟩ := h.descs
  rcases owns_forms h1 with ⟨h3, h4⟩ | ⟨g, cap, hv⟩
  · subst h4
    exact ⟨none, 0, h3, ⟨h.len, by omega, .inl rfl⟩, .inl rfl⟩
  · rw [hv] at h1
    refine ⟨_, cap, hv, ⟨h.len, hn, .inr ⟨g, 0, rfl, fun i hi => ?_⟩⟩, .inr ⟨g, 0, rfl, fun i hi => ?_⟩⟩
    · obtain ⟨a0, a1, a2, a3, a4⟩ := h2 i hi
      obtain ⟨ea, ec, e1, _⟩ := owns_slice (h.ents i hi)
      obtain ⟨ra, rc, e2, _⟩ := owns_slice (h.ints i hi)
      have t1 := h.ents i hi
      have t2 := h.ints i hi
      rw [e1] at t1 a2
      rw [e2] at t2 a4
      refine ⟨ea, ec, ra, rc, ⟨?_, ?_, ?_, ?_, ?_⟩, owns_trip t1 (hs i hi).1, owns_ints t2 (hs i hi).2⟩
      · rw [Nat.zero_add]; exact own_cellV h1 a0
      · rw [Nat.zero_add]; exact own_cellV h1 a1
      · rw [Nat.zero_add]; exact own_cellV h1 a2
      · rw [Nat.zero_add]; exact own_cellV h1 a3
      · rw [Nat.zero_add]; exact own_cellV h1 a4
    · obtain ⟨a0, a1, a2, a3, a4⟩ := h2 i hi
      obtain ⟨ea, ec, e1, hc⟩ := owns_slice (h.ents i hi)
      rw [e1] at a2
      exact ⟨ea, ec, by rw [Nat.zero_add]; exact own_cellV h1 a2, hc⟩
theorem MemO.at {w : World} {base : Nat} {F : Nat → Value} {m : Nat} {fs : List Int} {n : Nat} {ds : List DK} (h : MemO w base F m fs n ds) (hm : m ≤ 1048576) : ∃ a c, F 0 = .slice a m c ∧ TripAt w a m fs := by
  obtain ⟨a, c, e, _⟩ := owns_slice h.words
  have t := h.words
  rw [e] at t
  exact ⟨a, c, e, owns_trip t hm⟩
/-- All of it, at once: the value, and what lies there. -/
theorem MemO.open {w : World} {base : Nat} {F : Nat → Value} {m : Nat} {fs : List Int} {n : Nat} {ds : List DK} (h : MemO w base F m fs n ds) (hm : m ≤ 1048576) (hn : n ≤ 1048576) (hs : Small n ds) :
    ∃ wa wc da dc, MemF F = MemV wa m wc da n dc ∧ F 0 = .slice wa m wc ∧ F 1 = .slice da n dc ∧ TripAt w wa m fs ∧ DescAt w da n ds ∧ CapAt w da n ds := by
  obtain ⟨wa, wc, e0, t⟩ := h.at hm
  obtain ⟨da, dc, e1, d, c⟩ := h.descO.at hn hs
  exact ⟨wa, wc, da, dc, by rw [MemF, e0, e1], e0, e1, t, d, c⟩
/-- What toMem makes is such a Mem. -/
theorem memO_of {w : World} {base g h m n : Nat} {fs : List Int} {ds : List DK} (hl : ds.length = n) (hb : base ≤ g) (hgh : g < h) (o : w.ownsRow g 42 3 (SL g m) m (fs.map I)) (p : DescOwn w h n ds n) :
    ∃ F, MemF F = MemV (some ⟨g, 0, none⟩) m m (some ⟨h, 0, none⟩) n n ∧ F 0 = SL g m ∧ F 1 = SL h n ∧ MemO w base F m fs n ds := by
  obtain ⟨vs, P, Q, h1, h2⟩ := p
  refine ⟨fun a => if a = 0 then SL g m else if a = 1 then SL h n else if a % 2 = 0 then SL (P ((a - 2) / 2)) (dk ds ((a - 2) / 2)).en else SL (Q ((a - 3) / 2)) (dk ds ((a - 3) / 2)).rn, rfl, rfl, rfl, ⟨by simpa using own_weaken o hb, hl, ⟨vs, by simpa using own_weaken h1 (by omega), fun i hi => ?_⟩, fun i hi => ?_, fun i hi => ?_, ?_⟩⟩
  · have e1 : (2 + 2 * i) % 2 = 0 := by omega
    have e2 : (2 + 2 * i - 2) / 2 = i := by omega
    have e3 : ¬ (3 + 2 * i) % 2 = 0 := by omega
    have e4 : (3 + 2 * i - 3) / 2 = i := by omega
    simp only [show 2 + 2 * i ≠ 0 by omega, show 2 + 2 * i ≠ 1 by omega, show 3 + 2 * i ≠ 0 by omega, show 3 + 2 * i ≠ 1 by omega, if_false, e1, e2, e3, e4, if_true]
    exact (h2 i hi).1.at5
  · have e1 : (2 + 2 * i) % 2 = 0 := by omega
    have e2 : (2 + 2 * i - 2) / 2 = i := by omega
    simp only [show 2 + 2 * i ≠ 0 by omega, show 2 + 2 * i ≠ 1 by omega, if_false, e1, e2, if_true]
    exact own_weaken (h2 i hi).1.ents (by have := (h2 i hi).1.gp; omega)
  · have e3 : ¬ (3 + 2 * i) % 2 = 0 := by omega
    have e4 : (3 + 2 * i - 3) / 2 = i := by omega
    simp only [show 3 + 2 * i ≠ 0 by omega, show 3 + 2 * i ≠ 1 by omega, if_false, e3, e4]
    exact own_weaken (h2 i hi).1.ints (by have := (h2 i hi).1.gp; have := (h2 i hi).1.pq; omega)
  · have key : ∀ i j, i < j → j < n → Q i < P j := fun i j hij hj => (h2 j hj).2 i hij
    have B : ∀ a, a < 2 + 2 * n → ∀ k, ((if a = 0 then SL g m else if a = 1 then SL h n else if a % 2 = 0 then SL (P ((a - 2) / 2)) (dk ds ((a - 2) / 2)).en else SL (Q ((a - 3) / 2)) (dk ds ((a - 3) / 2)).rn : Value)).ownBlock = some k → k = (if a = 0 then g else if a = 1 then h else if a % 2 = 0 then P ((a - 2) / 2) else Q ((a - 3) / 2)) := by
      intro a ha k hk
      by_cases e0 : a = 0
      · rw [if_pos e0] at hk ⊢; simpa [Value.ownBlock] using hk.symm
      rw [if_neg e0] at hk ⊢
      by_cases e1 : a = 1
      · rw [if_pos e1] at hk ⊢; simpa [Value.ownBlock] using hk.symm
      rw [if_neg e1] at hk ⊢
      by_cases e2 : a % 2 = 0
      · rw [if_pos e2] at hk ⊢; simpa [Value.ownBlock] using hk.symm
      rw [if_neg e2] at hk ⊢
      simpa [Value.ownBlock] using hk.symm
    have M : ∀ a b, a < b → b < 2 + 2 * n → (if a = 0 then g else if a = 1 then h else if a % 2 = 0 then P ((a - 2) / 2) else Q ((a - 3) / 2)) < (if b = 0 then g else if b = 1 then h else if b % 2 = 0 then P ((b - 2) / 2) else Q ((b - 3) / 2)) := by
      intro a b hab hb'
      have gp : ∀ i, i < n → h < P i := fun i hi => (h2 i hi).1.gp
      have pq : ∀ i, i < n → P i < Q i := fun i hi => (h2 i hi).1.pq
      rw [if_neg (show ¬ b = 0 by omega)]
      by_cases b1 : b = 1
      · rw [if_pos b1, if_pos (show a = 0 by omega)]; exact hgh
      rw [if_neg b1]
      have ib : b % 2 = 0 → (b - 2) / 2 < n := fun _ => by omega
      have jb : ¬ b % 2 = 0 → (b - 3) / 2 < n := fun _ => by omega
      have up : h < (if b % 2 = 0 then P ((b - 2) / 2) else Q ((b - 3) / 2)) := by
        split
        · rename_i e; exact gp _ (ib e)
        · rename_i e; exact Nat.lt_trans (gp _ (jb e)) (pq _ (jb e))
      by_cases a0 : a = 0
      · rw [if_pos a0]; omega
      rw [if_neg a0]
      by_cases a1 : a = 1
      · rw [if_pos a1]; exact up
      rw [if_neg a1]
      by_cases ea : a % 2 = 0 <;> by_cases eb : b % 2 = 0
      · rw [if_pos ea, if_pos eb]
        have h3 := key ((a - 2) / 2) ((b - 2) / 2) (by omega) (by omega)
        have h4 := pq ((a - 2) / 2) (by omega)
        omega
      · rw [if_pos ea, if_neg eb]
        by_cases e : (a - 2) / 2 = (b - 3) / 2
        · rw [e]; exact pq _ (jb eb)
        · have h3 := key ((a - 2) / 2) ((b - 3) / 2) (by omega) (by omega)
          have h4 := pq ((a - 2) / 2) (by omega)
          have h5 := pq ((b - 3) / 2) (by omega)
          omega
      · rw [if_neg ea, if_pos eb]
        exact key _ _ (by omega) (by omega)
      · rw [if_neg ea, if_neg eb]
        have h3 := key ((a - 3) / 2) ((b - 3) / 2) (by omega) (by omega)
        have h5 := pq ((b - 3) / 2) (by omega)
        omega
    intro a b ha hb' hab k h3 h4
    have e1 := B a ha k h3
    have e2 := B b hb' k h4
    rcases Nat.lt_or_gt_of_ne hab with h5 | h5
    · have := M a b h5 hb'; omega
    · have := M b a h5 ha; omega
end Go.Proofs.YtbdfopokimpeiaqDoor

/- The words of rows, told by both; what a new memory of them is. -/
namespace Go.Proofs.YtbdfopokimpeiaqDoor
open Go.ChangeShapes Go.WideShapes Go.ChangeAt Go.RowKit

/-- What both tell of the rows. -/
def TellsL (xs : List Int) (st : Int) (L : List Int) : Prop := (OkRows xs st ∧ L = specL xs st) ∨ (¬ OkRows xs st ∧ L = [])
theorem tellsL (xs : List Int) (st : Int) : ∃ L, TellsL xs st L := by
  by_cases h : OkRows xs st
  · exact ⟨_, .inl ⟨h, rfl⟩⟩
  · exact ⟨_, .inr ⟨h, rfl⟩⟩
theorem TellsL.len {xs : List Int} {st : Int} {L : List Int} (h : TellsL xs st L) : L.length ≤ 20 := by
  rcases h with ⟨_, rfl⟩ | ⟨_, rfl⟩
  · exact Nat.le_of_eq rfl
  · simp
theorem specWordsT (a : Option Addr) (n c : Nat) (st : Int) (xs L : List Int) (w : World) (hA : IntAt w a n xs) (hL : TellsL xs st L) :
    Calls Tryd.prog 14 #[RowsV a n c st] w fun e w' => ListSays e w' L ∧ Below w.heap.size w w' := by
  rcases hL with ⟨h, rfl⟩ | ⟨h, rfl⟩
  · obtain rfl : n = 4 := hA.1.symm.trans h.1
    exact specWordsOf_yes a c st xs w hA ((ok_iff hA.1).2 h)
  · exact specWordsOf_not a n c st xs w hA (fun h' => h ((ok_iff hA.1).1 h'))
theorem implWordsT (a : Option Addr) (n : Nat) (st : Int) (xs L : List Int) (w : World) (hA : IntAt w a n xs) (hi : ∀ x ∈ xs, (Lit.int .i64 x).wf = true) (hN : Names w) (hL : TellsL xs st L) :
    Calls Tryd.prog 19 #[RowsV a n n st] w fun e w' => ListSays e w' L ∧ Below w.heap.size w w' := by
  rcases hL with ⟨h, rfl⟩ | ⟨h, rfl⟩
  · obtain rfl : n = 4 := hA.1.symm.trans h.1
    refine (implWordsOf_yes a st xs w hA hi h hN).mono ?_
    rintro e w' ⟨⟨g, _, rfl, ho⟩, hb⟩
    exact ⟨⟨_, _, _, rfl, own_intAt ho (by omega)⟩, hb⟩
  · refine (implWordsOf_not a n st xs w hA hi h).mono ?_
    rintro e w' ⟨rfl, hb⟩
    exact ⟨⟨_, _, _, rfl, rfl, by omega, .inl rfl⟩, hb⟩
/-- Words that are numbers. -/
def wordsF (L : List Int) (k : Nat) : List Int := flat3 (fun i => (L.getD i 0, 0, 0)) k
/-- Descs of threads that have not tried anything. -/
def zds (n : Nat) : List DK := List.replicate n default
theorem zds_at {n i : Nat} : dk (zds n) i = default := by
  unfold dk zds
  rcases Nat.lt_or_ge i n with h | h
  · simp [List.getD, h]
  · simp [List.getD, Nat.not_lt.2 h]
def NewGood (L : List Int) (t : Int) : Prop := (1 ≤ t ∧ t ≤ 4) ∧ MemGood (wordsF L L.length) L.length (zds t.toNat)
/-- What both answer. -/
def NewSays (L : List Int) (t : Int) (m : Nat) (fs : List Int) (n : Nat) (ds : List DK) (ok : Bool) : Prop :=
  (ok = true ∧ NewGood L t ∧ m = L.length ∧ fs = wordsF L m ∧ n = t.toNat ∧ ds = zds n) ∨ (ok = false ∧ ¬ NewGood L t ∧ m = 0 ∧ fs = [] ∧ n = 0 ∧ ds = [])
theorem newSays_one {L : List Int} {t : Int} {m m' : Nat} {fs fs' : List Int} {n n' : Nat} {ds ds' : List DK} {ok ok' : Bool} (h : NewSays L t m fs n ds ok) (h' : NewSays L t m' fs' n' ds' ok') : m' = m ∧ fs' = fs ∧ n' = n ∧ ds' = ds ∧ ok' = ok := by
  rcases h with ⟨rfl, h1, rfl, rfl, rfl, rfl⟩ | ⟨rfl, h1, rfl, rfl, rfl, rfl⟩ <;> rcases h' with ⟨rfl, h2, rfl, rfl, rfl, rfl⟩ | ⟨rfl, h2, rfl, rfl, rfl, rfl⟩
  · exact ⟨rfl, rfl, rfl, rfl, rfl⟩
  · exact absurd h1 h2
  · exact absurd h2 h1
  · exact ⟨rfl, rfl, rfl, rfl, rfl⟩
theorem NewSays.small {L : List Int} {t : Int} {m : Nat} {fs : List Int} {n : Nat} {ds : List DK} {ok : Bool} (h : NewSays L t m fs n ds ok) (hl : L.length ≤ 20) : m ≤ 20 ∧ n ≤ 4 ∧ Small n ds ∧ ds.length = n := by
  rcases h with ⟨rfl, h1, rfl, rfl, rfl, rfl⟩ | ⟨rfl, h1, rfl, rfl, rfl, rfl⟩
  · exact ⟨hl, by have := h1.1; omega, fun i hi => by rw [zds_at]; exact ⟨by show (0 : Nat) ≤ _; omega, by show (0 : Nat) ≤ _; omega⟩, by simp [zds]⟩
  · exact ⟨by omega, by omega, fun i hi => by omega, rfl⟩
/-- Descs that were just made. -/
theorem made_descs {n : Nat} : ∀ i, i < n → AtF (madeCells (Value.agg (DescC 0 0 none 0 0 0 none 0 0)).cells (n * 5)).toList i (dk (zds n) i) (.slice none 0 0) (.slice none 0 0) := by
  intro i hi
  rw [zds_at]
  have m0 : (i * 5) % 5 = 0 := by omega
  have m1 : (i * 5 + 1) % 5 = 1 := by omega
  have m2 : (i * 5 + 2) % 5 = 2 := by omega
  have m3 : (i * 5 + 3) % 5 = 3 := by omega
  have m4 : (i * 5 + 4) % 5 = 4 := by omega
  refine ⟨?_, ?_, ?_, ?_, ?_⟩
  · simp [madeCells, show i * 5 < n * 5 by omega, Value.cells]; rfl
  · simp [madeCells, show i * 5 + 1 < n * 5 by omega, Value.cells, m1]; rfl
  · simp [madeCells, show i * 5 + 2 < n * 5 by omega, Value.cells, m2]
  · simp [madeCells, show i * 5 + 3 < n * 5 by omega, Value.cells, m3]; rfl
  · simp [madeCells, show i * 5 + 4 < n * 5 by omega, Value.cells, m4]
/-- A Mem of words and of such Descs. -/
def FNew (v d : Value) : Nat → Value := fun a => if a = 0 then v else if a = 1 then d else .slice none 0 0
theorem memO_new {w : World} {base g n m : Nat} {fs : List Int} {v : Value} (ho : w.ownsRow base 42 3 v m (fs.map I)) (hd : w.ownsRow base 59 5 (SL g n) n (madeCells (Value.agg (DescC 0 0 none 0 0 0 none 0 0)).cells (n * 5)).toList) (hne : v.ownBlock ≠ some g) :
    MemO w base (FNew v (SL g n)) m fs n (zds n) := by
  refine ⟨ho, by simp [zds], ⟨_, hd, fun i hi => ?_⟩, fun i hi => ?_, fun i hi => ?_, ?_⟩
  · have h := made_descs i hi
    simpa [FNew, show 2 + 2 * i ≠ 0 by omega, show 2 + 2 * i ≠ 1 by omega, show 3 + 2 * i ≠ 0 by omega, show 3 + 2 * i ≠ 1 by omega] using h
  · rw [zds_at]
    simp only [FNew, show 2 + 2 * i ≠ 0 by omega, show 2 + 2 * i ≠ 1 by omega, if_false]
    exact World.ownsRow_nil _ _ _ _
  · rw [zds_at]
    simp only [FNew, show 3 + 2 * i ≠ 0 by omega, show 3 + 2 * i ≠ 1 by omega, if_false]
    exact World.ownsRow_nil _ _ _ _
  · intro a b ha hb hab k h1 h2
    unfold FNew at h1 h2
    by_cases a0 : a = 0
    · rw [if_pos a0] at h1
      rw [if_neg (show ¬ b = 0 by omega)] at h2
      by_cases b1 : b = 1
      · rw [if_pos b1] at h2
        cases h2
        exact hne h1
      · rw [if_neg b1] at h2
        cases h2
    · rw [if_neg a0] at h1
      by_cases a1 : a = 1
      · rw [if_pos a1] at h1
        cases h1
        by_cases b0 : b = 0
        · rw [if_pos b0] at h2
          exact hne h2
        · rw [if_neg b0, if_neg (show ¬ b = 1 by omega)] at h2
          cases h2
      · rw [if_neg a1] at h1
        cases h1
theorem memO_none (w : World) (base : Nat) : MemO w base (FNew (.slice none 0 0) (.slice none 0 0)) 0 [] 0 [] := by
  refine ⟨World.ownsRow_nil _ _ _ _, rfl, ⟨[], World.ownsRow_nil _ _ _ _, fun i hi => by omega⟩, fun i hi => by omega, fun i hi => by omega, ?_⟩
  intro a b ha hb hab k h1 h2
  unfold FNew at h1
  split at h1
  · cases h1
  · split at h1 <;> cases h1
/-- A list of numbers does not lie in a block of other things. -/
theorem int_apart {w : World} {p o n bm : Nat} {L : List Int} {cs : Array Value} {T : TypeId} (h : IntAt w (some ⟨p, o, none⟩) n L) (hn : 0 < n) (hb : Box w bm cs T) (hcs : ∀ (i : Nat) (x : Int), cs[i]? ≠ some (I x)) : p ≠ bm := by
  rintro rfl
  rcases h.2.2 with h0 | ⟨p', o', he, g⟩
  · omega
  · cases he
    have h1 := g 0 hn
    rw [hb.cell] at h1
    exact hcs _ _ h1
theorem int_grown {w w' : World} {a : Option Addr} {n bm : Nat} {L : List Int} (h : IntAt w a n L) (hg : w.grownBy w' (some bm)) (hne : ∀ p, a = some p → 0 < n → p.block ≠ bm) : IntAt w' a n L := by
  refine ⟨h.1, h.2.1, ?_⟩
  rcases h.2.2 with h0 | ⟨p, o, rfl, g⟩
  · exact .inl h0
  · by_cases hn : n = 0
    · exact .inl hn
    · exact .inr ⟨p, o, rfl, fun i hi => far_cell hg (g i hi) (hne _ rfl (by omega))⟩
end Go.Proofs.YtbdfopokimpeiaqDoor

/- impl.within at whatever numbers, walked. -/
namespace Go.Proofs.YtbdfopokimpeiaqDoor
open Go.ChangeShapes Go.WideShapes Go.ChangeAt Go.RowKit

theorem within_g (x lo hi : Int) (w : World) : Calls Tryd.prog 18 #[.int .i64 x, .int .i64 lo, .int .i64 hi] w fun e w' => e = .returned (.bool (inB x lo hi)) ∧ w' = w := by
  by_cases h0 : lo ≤ x
  · by_cases h1 : x ≤ hi
    · rw [inB_yes ⟨h0, h1⟩]
      go_enter Tryd.func18, Tryd.ntmps18
      go_wp2
      go_ret
      exact ⟨rfl, rfl⟩
    · rw [inB_no (fun h => h1 h.2)]
      go_enter Tryd.func18, Tryd.ntmps18
      go_wp2
      go_ret
      exact ⟨rfl, rfl⟩
  · rw [inB_no (fun h => h0 h.1)]
    go_enter Tryd.func18, Tryd.ntmps18
    go_wp2
    go_ret
    exact ⟨rfl, rfl⟩
end Go.Proofs.YtbdfopokimpeiaqDoor

/- impl.isMark, walked. -/
namespace Go.Proofs.YtbdfopokimpeiaqDoor
open Go.ChangeShapes Go.WideShapes Go.ChangeAt Go.RowKit

theorem isMark_any (n t s : Int) (w : World) : Calls Tryd.prog 49 #[WordV n t s] w fun e w' => e = .returned (.bool (t != 0)) ∧ Below w.heap.size w w' := by
  go_enter Tryd.func49, Tryd.ntmps49
  go_wp2
  go_ret
  exact ⟨rfl, (Below.refl _ w).alloc (Nat.le_refl _) _⟩
end Go.Proofs.YtbdfopokimpeiaqDoor

/- impl.WordOk, walked at any word and any number of threads. -/
namespace Go.Proofs.YtbdfopokimpeiaqDoor
open Go.ChangeShapes Go.WideShapes Go.ChangeAt Go.RowKit Go.Joins

set_option maxHeartbeats 1000000 in
theorem implWordOk_any (n t s th : Int) (w : World) : Calls Tryd.prog 48 #[WordV n t s, .int .i64 th] w fun e w' => e = .returned (.bool (wordOkM n t s th)) ∧ Below w.heap.size w w' := by
  have hb0 : Below w.heap.size w (w.alloc (.cells #[.int .i64 n, .int .i64 t, .int .i64 s] 42)) := (Below.refl _ w).alloc (Nat.le_refl _) _
  have HB : Hid _ := hb0
  clear hb0
  obtain ⟨B, hB⟩ : ∃ B, wordOkM n t s th = B := ⟨_, rfl⟩
  rw [hB]
  have HM : Hid (wordOkM n t s th = B) := hB
  clear hB
  have HW : Hid (∀ w1, Below (w.heap.size + 1) (w.alloc (.cells #[.int .i64 n, .int .i64 t, .int .i64 s] 42)) w1 → w1.cell? ⟨w.heap.size, 0, none⟩ = some (.int .i64 n) ∧ w1.cell? ⟨w.heap.size, 1, none⟩ = some (.int .i64 t) ∧ w1.cell? ⟨w.heap.size, 2, none⟩ = some (.int .i64 s) ∧ Below w.heap.size w w1) := fun w1 h =>
    ⟨by rw [h.cell (by simp)]; simp, by rw [h.cell (by simp)]; simp, by rw [h.cell (by simp)]; simp, HB.out.trans (h.mono (by simp))⟩
  clear HB
  by_cases ht : t = 0
  · subst ht
    go_enter Tryd.func48, Tryd.ntmps48
    go_wp2_with fail
    refine (isMark_any n 0 s _).mono ?_
    rintro e w1 ⟨rfl, hb1⟩
    obtain ⟨c0, c1, c2, hb⟩ := HW.out w1 (by simpa using hb1)
    rw [show ((0 : Int) != 0) = false from rfl]
    clear hb1 HW
    rcases hi : inB n 0 1000 with _ | _
    · obtain rfl : B = false := by rw [← HM.out]; simp [wordOkM, hi]
      have HI : Hid (inB n 0 1000 = false) := hi
      clear HM hi
      go_wp2_with fail
      refine (within_g n 0 1000 _).mono ?_
      rintro e w2 ⟨rfl, rfl⟩
      rw [HI.out]
      go_wp2
      go_ret
      exact ⟨rfl, hb⟩
    · have HI : Hid (inB n 0 1000 = true) := hi
      have HS : Hid ((s == 0) = B) := by show _ = _; rw [← HM.out, Bool.eq_iff_iff]; simp [wordOkM, hi]
      clear HM hi
      go_wp2_with fail
      refine (within_g n 0 1000 _).mono ?_
      rintro e w2 ⟨rfl, rfl⟩
      rw [HI.out]
      go_wp2
      go_ret
      exact ⟨by rw [HS.out]; rfl, hb⟩
  · have ht' : (t != 0) = true := by simpa using ht
    go_enter Tryd.func48, Tryd.ntmps48
    go_wp2_with fail
    refine (isMark_any n t s _).mono ?_
    rintro e w1 ⟨rfl, hb1⟩
    obtain ⟨c0, c1, c2, hb⟩ := HW.out w1 (by simpa using hb1)
    rw [ht']
    clear hb1 HW ht'
    by_cases hn : n = 0
    · subst hn
      rcases hi : inB t 1 th with _ | _
      · obtain rfl : B = false := by rw [← HM.out]; simp [wordOkM, ht, hi]
        have HI : Hid (inB t 1 th = false) := hi
        clear HM ht hi
        go_wp2_with fail
        refine (within_g t 1 th _).mono ?_
        rintro e w2 ⟨rfl, rfl⟩
        rw [HI.out]
        go_wp2
        go_ret
        exact ⟨rfl, hb⟩
      · have HI : Hid (inB t 1 th = true) := hi
        have HS : Hid (inB s 1 1000000 = B) := by show _ = _; rw [← HM.out]; simp [wordOkM, ht, hi]
        clear HM ht hi
        go_wp2_with fail
        refine (within_g t 1 th _).mono ?_
        rintro e w2 ⟨rfl, rfl⟩
        rw [HI.out]
        go_wp2_with fail
        refine (within_g s 1 1000000 _).mono ?_
        rintro e w3 ⟨rfl, rfl⟩
        rw [HS.out]
        go_wp2
        go_ret
        exact ⟨rfl, hb⟩
    · have hn' : (n == 0) = false := by simpa using hn
      obtain rfl : B = false := by rw [← HM.out]; simp [wordOkM, ht, hn]
      clear HM hn ht
      go_wp2
      go_ret
      exact ⟨rfl, hb⟩
end Go.Proofs.YtbdfopokimpeiaqDoor

/- slices.Equal at ints and impl.ResSame, walked at any lists. -/
namespace Go.Proofs.YtbdfopokimpeiaqDoor
open Go.ChangeShapes Go.WideShapes Go.ChangeAt Go.RowKit

set_option maxHeartbeats 1000000 in
theorem equalI_any (a1 a2 : Option Addr) (n1 n2 c1 c2 : Nat) (xs ys : List Int) (w : World) (h1 : IntAt w a1 n1 xs) (h2 : IntAt w a2 n2 ys) :
    Calls Tryd.prog 68 #[.slice a1 n1 c1, .slice a2 n2 c2] w fun e w' => e = .returned (.bool (decide (xs = ys))) ∧ Below w.heap.size w w' := by
  have H1 : Hid (IntAt w a1 n1 xs) := h1
  have H2 : Hid (IntAt w a2 n2 ys) := h2
  have L1 : Hid (xs.length = n1) := h1.1
  have L2 : Hid (ys.length = n2) := h2.1
  have b1 := h1.2.1
  have b2 := h2.2.1
  obtain ⟨B, hB⟩ : ∃ B, decide (xs = ys) = B := ⟨_, rfl⟩
  rw [hB]
  have HB : Hid (decide (xs = ys) = B) := hB
  clear h1 h2 hB
  by_cases hn : n1 = n2
  · subst hn
    go_enter Tryd.func68, Tryd.ntmps68
    go_wp2
    go_loopw [13] (fun i wr => ∃ k : Nat, k ≤ n1 ∧ i = .int .i64 k ∧ xs.take k = ys.take k ∧ Below w.heap.size w wr) (fun i _ => n1 - (intOf i).toNat)
    case atStart => exact ⟨0, Nat.zero_le _, rfl, rfl, Below.refl _ _⟩
    case round =>
      obtain ⟨k, hk1, rfl, ht, hb⟩ := hrel
      have HT : Hid (xs.take k = ys.take k) := ht
      clear ht
      by_cases hlt1 : k < n1
      · rcases (H1.out.below hb (Nat.le_refl _)).2.2 with h | ⟨p1, o1, rfl, g1⟩
        · omega
        rcases (H2.out.below hb (Nat.le_refl _)).2.2 with h | ⟨p2, o2, rfl, g2⟩
        · omega
        obtain ⟨x, hx⟩ : ∃ x, xs.getD k 0 = x := ⟨_, rfl⟩
        obtain ⟨y, hy⟩ : ∃ y, ys.getD k 0 = y := ⟨_, rfl⟩
        have e1 := g1 k hlt1
        have e2 := g2 k hlt1
        rw [hx] at e1
        rw [hy] at e2
        have HX : Hid (xs.getD k 0 = x) := hx
        have HY : Hid (ys.getD k 0 = y) := hy
        clear g1 g2 hx hy
        go_wp2
        go_region
        go_wp2
        · have hd : (x != y) = true := by assumption
          go_ret
          refine ⟨?_, hb.drew⟩
          have e : xs ≠ ys := fun e => by rw [← HX.out, ← HY.out, e] at hd; simp at hd
          rw [← HB.out]
          simp [e]
        · have hd : (x != y) = false := by assumption
          have l1 := L1.out
          have l2 := L2.out
          exact ⟨⟨k + 1, by omega, by go_num, take_nextI (by omega) (by omega) HT.out (by rw [HX.out, HY.out]; simpa using hd), hb.drew⟩, by simp [intOf]; omega⟩
      · obtain rfl : k = n1 := by omega
        go_wp2
        go_ret
        refine ⟨?_, hb⟩
        have l1 := L1.out
        have l2 := L2.out
        have e : xs = ys := by
          have e0 := HT.out
          rwa [List.take_of_length_le (by omega), List.take_of_length_le (by omega)] at e0
        rw [← HB.out]
        simp [e]
  · have hne : ((n1 : Int) != (n2 : Int)) = true := by simp; omega
    have hxy : xs ≠ ys := fun e => by have l1 := L1.out; have l2 := L2.out; rw [e] at l1; omega
    have HX : Hid (xs ≠ ys) := hxy
    clear hxy
    go_enter Tryd.func68, Tryd.ntmps68
    go_wp2
    go_ret
    refine ⟨?_, Below.refl _ _⟩
    rw [← HB.out]
    simp [HX.out]

set_option maxHeartbeats 1000000 in
theorem implResSame_any (a1 a2 : Option Addr) (n1 n2 c1 c2 : Nat) (k1 k2 : Int) (xs ys : List Int) (w : World) (h1 : IntAt w a1 n1 xs) (h2 : IntAt w a2 n2 ys) :
    Calls Tryd.prog 63 #[ResV k1 a1 n1 c1, ResV k2 a2 n2 c2] w fun e w' => e = .returned (.bool (decide (k1 = k2 ∧ xs = ys))) ∧ Below w.heap.size w w' := by
  have H1 : Hid (IntAt w a1 n1 xs) := h1
  have H2 : Hid (IntAt w a2 n2 ys) := h2
  obtain ⟨B, hB⟩ : ∃ B, decide (k1 = k2 ∧ xs = ys) = B := ⟨_, rfl⟩
  rw [hB]
  have HB : Hid (decide (k1 = k2 ∧ xs = ys) = B) := hB
  clear h1 h2 hB
  by_cases hk : k1 = k2
  · subst hk
    go_enter Tryd.func63, Tryd.ntmps63
    go_wp2_with fail
    have hb0 : Below w.heap.size w ((w.alloc (.cells #[.int .i64 k1, .slice a1 n1 c1] 57)).alloc (.cells #[.int .i64 k1, .slice a2 n2 c2] 57)) := ((Below.refl _ w).alloc (Nat.le_refl _) _).alloc (by simp) _
    refine (equalI_any a1 a2 n1 n2 c1 c2 xs ys _ (H1.out.below hb0 (Nat.le_refl _)) (H2.out.below hb0 (Nat.le_refl _))).mono ?_
    rintro e w1 ⟨rfl, hb1⟩
    have hb2 := hb0.trans (hb1.mono (by simp; omega))
    clear hb0 hb1
    by_cases hx : xs = ys
    · rw [show decide (xs = ys) = true from decide_eq_true hx]
      have HX : Hid (xs = ys) := hx
      clear hx
      go_wp2
      go_ret
      exact ⟨by rw [← HB.out]; simp [HX.out], hb2⟩
    · rw [show decide (xs = ys) = false from decide_eq_false hx]
      have HX : Hid (¬ xs = ys) := hx
      clear hx
      go_wp2
      go_ret
      exact ⟨by rw [← HB.out]; simp [HX.out], hb2⟩
  · have hk' : (k1 == k2) = false := by simpa using hk
    have HK : Hid (¬ k1 = k2) := hk
    clear hk
    go_enter Tryd.func63, Tryd.ntmps63
    go_wp2
    go_ret
    refine ⟨?_, ((Below.refl _ _).alloc (Nat.le_refl _) _).alloc (by simp) _⟩
    rw [← HB.out]
    simp [HK.out]
end Go.Proofs.YtbdfopokimpeiaqDoor
