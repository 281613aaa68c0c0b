/- Texts joined: MemO, WordsT, KOp, KPair, KHelp, Thr, NewC, Within, IsMark, WordOk, EqualI. -/
import Derived.Test.YtcfimaffeopbbaaGreatDoorQM11
import Derived.Test.YtcfimaffeopbbaaGreatDoorQM03
import Derived.Deep.RegionHeld3
import Derived.Lib.SmallJoins
import Derived.OpenShut
import Derived.ChangeOld
import Derived.Test.YtcfimaffeopbbaaGreatDoorQM07
import Derived.Test.YtcfimaffeopbbaaGreatDoorQM09
import Derived.Test.YtcfimaffeopbbaaGreatDoorQM04
import Derived.Test.YtcfimaffeopbbaaGreatDoorQM05
import Derived.Handy
set_option maxHeartbeats 1000000
set_option maxRecDepth 100000
namespace Go.Proofs.YtcfimaffeopbbaaGreatDoor
section
open Go.ChangeShapes Go.WideShapes Go.ChangeAt Go.RowKit Go.Joins
theorem owns_trip {w : World} {base : Nat} {e : TypeId} {n c : Nat} {a : Option Addr} {fs : List Int} (h : w.ownsRow base e 3 (.slice a n c) n (fs.map I)) (hn : n ≤ 1048576) : TripAt w a n fs := by
 rcases owns_forms h with ⟨h2, h3⟩ | ⟨g, cap, hv⟩
 · subst h3
   exact ⟨by have := h.1; simpa using this, by omega, .inl rfl⟩
 · cases hv
   exact own_tripAt h hn
theorem owns_ints {w : World} {base : Nat} {e : TypeId} {n c : Nat} {a : Option Addr} {fs : List Int} (h : w.ownsRow base e 1 (.slice a n c) n (fs.map I)) (hn : n ≤ 1048576) : IntAt w a n fs := by
 obtain ⟨a', c', hv, hi⟩ := own_at h (by omega)
 cases hv
 exact hi
def Sep (F : Nat → Value) (N : Nat) : Prop := ∀ a b, a < N → b < N → a ≠ b → ∀ k, (F a).ownBlock = some k → (F b).ownBlock ≠ some k
def AtF (vs : List Value) (i : Nat) (d : DK) (v u : Value) : Prop :=
 vs[i * 5]? = some (I d.sq) ∧ vs[i * 5 + 1]? = some (I d.st) ∧ vs[i * 5 + 2]? = some v ∧ vs[i * 5 + 3]? = some (I d.cd) ∧ vs[i * 5 + 4]? = some u
theorem AtF.set {vs : List Value} {i : Nat} {d : DK} {v u : Value} (h : AtF vs i d v u) {j : Nat} (hj : j < i * 5 ∨ i * 5 + 4 < j) (x : Value) : AtF (vs.set j x) i d v u := by
 obtain ⟨h0, h1, h2, h3, h4⟩ := h
 unfold AtF
 rw [List.getElem?_set_ne (by omega), List.getElem?_set_ne (by omega), List.getElem?_set_ne (by omega), List.getElem?_set_ne (by omega), List.getElem?_set_ne (by omega)]
 exact ⟨h0, h1, h2, h3, h4⟩
structure DescO (w : World) (base : Nat) (F : Nat → Value) (n : Nat) (ds : List DK) : Prop where
 len : ds.length = n
 descs : ∃ vs, w.ownsRow base 104 5 (F 1) n vs ∧ ∀ i, i < n → AtF vs i (dk ds i) (F (2 + 2 * i)) (F (3 + 2 * i))
 ents : ∀ i, i < n → w.ownsRow base 107 3 (F (2 + 2 * i)) (dk ds i).en ((dk ds i).es.map I)
 ints : ∀ i, i < n → w.ownsRow base 3 1 (F (3 + 2 * i)) (dk ds i).rn ((dk ds i).rs.map I)
 sep : Sep F (2 + 2 * n)
structure MemO (w : World) (base : Nat) (F : Nat → Value) (m : Nat) (fs : List Int) (n : Nat) (ds : List DK) : Prop where
 words : w.ownsRow base 75 3 (F 0) m (fs.map I)
 descO : DescO w base F n ds
abbrev MemF (F : Nat → Value) : Value := .agg #[F 0, F 1]
def Small (n : Nat) (ds : List DK) : Prop := ∀ i, i < n → (dk ds i).en ≤ 1048576 ∧ (dk ds i).rn ≤ 1048576
theorem DescO.heap {w w' : World} {base : Nat} {F : Nat → Value} {n : Nat} {ds : List DK} (h : DescO w base F n ds) (he : ∀ a, 1 ≤ a → a < 2 + 2 * n → ∀ k, (F a).ownBlock = some k → w'.heap[k]? = w.heap[k]?) : DescO w' base F n ds := by
 obtain ⟨vs, h1, h2⟩ := h.descs
 exact ⟨h.len, ⟨vs, owns_heap h1 (he 1 (by omega) (by omega)), h2⟩, fun i hi => owns_heap (h.ents i hi) (he _ (by omega) (by omega)), fun i hi => owns_heap (h.ints i hi) (he _ (by omega) (by omega)), h.sep⟩
theorem DescO.below {w w' : World} {base : Nat} {F : Nat → Value} {n : Nat} {ds : List DK} (h : DescO w base F n ds) {B : Nat} (hb : Below B w w') (hB : w.heap.size ≤ B) : DescO w' base F n ds := by
 obtain ⟨vs, h1, h2⟩ := h.descs
 exact ⟨h.len, ⟨vs, owns_below h1 hb hB, h2⟩, fun i hi => owns_below (h.ents i hi) hb hB, fun i hi => owns_below (h.ints i hi) hb hB, h.sep⟩
theorem MemO.below {w w' : World} {base : Nat} {F : Nat → Value} {m : Nat} {fs : List Int} {n : Nat} {ds : List DK} (h : MemO w base F m fs n ds) {B : Nat} (hb : Below B w w') (hB : w.heap.size ≤ B) : MemO w' base F m fs n ds :=
 ⟨owns_below h.words hb hB, h.descO.below hb hB⟩
theorem MemO.heap {w w' : World} {base : Nat} {F : Nat → Value} {m : Nat} {fs : List Int} {n : Nat} {ds : List DK} (h : MemO w base F m fs n ds) (he : ∀ a, a < 2 + 2 * n → ∀ k, (F a).ownBlock = some k → w'.heap[k]? = w.heap[k]?) : MemO w' base F m fs n ds :=
 ⟨owns_heap h.words (he 0 (by omega)), h.descO.heap fun a _ ha => he a ha⟩
theorem DescO.blk {w : World} {base : Nat} {F : Nat → Value} {n : Nat} {ds : List DK} (h : DescO w base F n ds) : ∀ a, 1 ≤ a → a < 2 + 2 * n → ∀ k, (F a).ownBlock = some k → base ≤ k ∧ k < w.heap.size := by
 intro a h1 ha k hk
 obtain ⟨vs, h2, _⟩ := h.descs
 by_cases e1 : a = 1
 · subst e1; exact h2.lt k hk
 by_cases e2 : a % 2 = 0
 · obtain ⟨i, rfl⟩ : ∃ i, a = 2 + 2 * i := ⟨(a - 2) / 2, by omega⟩
   exact (h.ents i (by omega)).lt k hk
 · obtain ⟨i, rfl⟩ : ∃ i, a = 3 + 2 * i := ⟨(a - 3) / 2, by omega⟩
   exact (h.ints i (by omega)).lt k hk
theorem MemO.blk {w : World} {base : Nat} {F : Nat → Value} {m : Nat} {fs : List Int} {n : Nat} {ds : List DK} (h : MemO w base F m fs n ds) : ∀ a, a < 2 + 2 * n → ∀ k, (F a).ownBlock = some k → base ≤ k ∧ k < w.heap.size := by
 intro a ha k hk
 by_cases e0 : a = 0
 · subst e0; exact h.words.lt k hk
 · exact h.descO.blk a (by omega) ha k hk
theorem DescO.weaken {w : World} {base base' : Nat} {F : Nat → Value} {n : Nat} {ds : List DK} (h : DescO w base F n ds) (hb : base' ≤ base) : DescO w base' F n ds := by
 obtain ⟨vs, h1, h2⟩ := h.descs
 exact ⟨h.len, ⟨vs, own_weaken h1 hb, h2⟩, fun i hi => own_weaken (h.ents i hi) hb, fun i hi => own_weaken (h.ints i hi) hb, h.sep⟩
theorem MemO.weaken {w : World} {base base' : Nat} {F : Nat → Value} {m : Nat} {fs : List Int} {n : Nat} {ds : List DK} (h : MemO w base F m fs n ds) (hb : base' ≤ base) : MemO w base' F m fs n ds :=
 ⟨own_weaken h.words hb, h.descO.weaken hb⟩
theorem DescO.at {w : World} {base : Nat} {F : Nat → Value} {n : Nat} {ds : List DK} (h : DescO w base F n ds) (hn : n ≤ 1048576) (hs : Small n ds) : ∃ a c, F 1 = .slice a n c ∧ DescAt w a n ds ∧ CapAt w a n ds := by
 obtain ⟨vs, h1, h2⟩ := h.descs
 rcases owns_forms h1 with ⟨h3, h4⟩ | ⟨g, cap, hv⟩
 · subst h4
   exact ⟨none, 0, h3, ⟨h.len, by omega, .inl rfl⟩, .inl rfl⟩
 · rw [hv] at h1
   refine ⟨_, cap, hv, ⟨h.len, hn, .inr ⟨g, 0, rfl, fun i hi => ?_⟩⟩, .inr ⟨g, 0, rfl, fun i hi => ?_⟩⟩
   · obtain ⟨a0, a1, a2, a3, a4⟩ := h2 i hi
     obtain ⟨ea, ec, e1, _⟩ := owns_slice (h.ents i hi)
     obtain ⟨ra, rc, e2, _⟩ := owns_slice (h.ints i hi)
     have t1 := h.ents i hi
     have t2 := h.ints i hi
     rw [e1] at t1 a2
     rw [e2] at t2 a4
     refine ⟨ea, ec, ra, rc, ⟨?_, ?_, ?_, ?_, ?_⟩, owns_trip t1 (hs i hi).1, owns_ints t2 (hs i hi).2⟩
     · rw [Nat.zero_add]; exact own_cellV h1 a0
     · rw [Nat.zero_add]; exact own_cellV h1 a1
     · rw [Nat.zero_add]; exact own_cellV h1 a2
     · rw [Nat.zero_add]; exact own_cellV h1 a3
     · rw [Nat.zero_add]; exact own_cellV h1 a4
   · obtain ⟨a0, a1, a2, a3, a4⟩ := h2 i hi
     obtain ⟨ea, ec, e1, hc⟩ := owns_slice (h.ents i hi)
     rw [e1] at a2
     exact ⟨ea, ec, by rw [Nat.zero_add]; exact own_cellV h1 a2, hc⟩
theorem MemO.at {w : World} {base : Nat} {F : Nat → Value} {m : Nat} {fs : List Int} {n : Nat} {ds : List DK} (h : MemO w base F m fs n ds) (hm : m ≤ 1048576) : ∃ a c, F 0 = .slice a m c ∧ TripAt w a m fs := by
 obtain ⟨a, c, e, _⟩ := owns_slice h.words
 have t := h.words
 rw [e] at t
 exact ⟨a, c, e, owns_trip t hm⟩
theorem MemO.open {w : World} {base : Nat} {F : Nat → Value} {m : Nat} {fs : List Int} {n : Nat} {ds : List DK} (h : MemO w base F m fs n ds) (hm : m ≤ 1048576) (hn : n ≤ 1048576) (hs : Small n ds) :
   ∃ wa wc da dc, MemF F = MemV wa m wc da n dc ∧ F 0 = .slice wa m wc ∧ F 1 = .slice da n dc ∧ TripAt w wa m fs ∧ DescAt w da n ds ∧ CapAt w da n ds := by
 obtain ⟨wa, wc, e0, t⟩ := h.at hm
 obtain ⟨da, dc, e1, d, c⟩ := h.descO.at hn hs
 exact ⟨wa, wc, da, dc, by rw [MemF, e0, e1], e0, e1, t, d, c⟩
end
section
open Go.ChangeShapes Go.WideShapes Go.ChangeAt Go.RowKit
def TellsL (xs : List Int) (st : Int) (L : List Int) : Prop := (OkRows xs st ∧ L = specL xs st) ∨ (¬ OkRows xs st ∧ L = [])
theorem tellsL (xs : List Int) (st : Int) : ∃ L, TellsL xs st L := by
 by_cases h : OkRows xs st
 · exact ⟨_, .inl ⟨h, rfl⟩⟩
 · exact ⟨_, .inr ⟨h, rfl⟩⟩
theorem TellsL.len {xs : List Int} {st : Int} {L : List Int} (h : TellsL xs st L) : L.length ≤ 20 := by
 rcases h with ⟨_, rfl⟩ | ⟨_, rfl⟩
 · exact Nat.le_of_eq rfl
 · simp
theorem specWordsT (a : Option Addr) (n c : Nat) (st : Int) (xs L : List Int) (w : World) (hA : IntAt w a n xs) (hL : TellsL xs st L) :
   Calls Tryz.prog 44 #[RowsV a n c st] w fun e w' => ListSays e w' L ∧ Below w.heap.size w w' := by
 rcases hL with ⟨h, rfl⟩ | ⟨h, rfl⟩
 · obtain rfl : n = 4 := hA.1.symm.trans h.1
   exact specWordsOf_yes a c st xs w hA ((ok_iff hA.1).2 h)
 · exact specWordsOf_not a n c st xs w hA (fun h' => h ((ok_iff hA.1).1 h'))
theorem implWordsT (a : Option Addr) (n : Nat) (st : Int) (xs L : List Int) (w : World) (hA : IntAt w a n xs) (hi : ∀ x ∈ xs, (Lit.int .i64 x).wf = true) (hN : Names w) (hL : TellsL xs st L) :
   Calls Tryz.prog 53 #[RowsV a n n st] w fun e w' => ListSays e w' L ∧ Below w.heap.size w w' := by
 rcases hL with ⟨h, rfl⟩ | ⟨h, rfl⟩
 · obtain rfl : n = 4 := hA.1.symm.trans h.1
   refine (implWordsOf_yes a st xs w hA hi h hN).mono ?_
   rintro e w' ⟨⟨g, _, rfl, ho⟩, hb⟩
   exact ⟨⟨_, _, _, rfl, own_intAt ho (by omega)⟩, hb⟩
 · refine (implWordsOf_not a n st xs w hA hi h).mono ?_
   rintro e w' ⟨rfl, hb⟩
   exact ⟨⟨_, _, _, rfl, rfl, by omega, .inl rfl⟩, hb⟩
def wordsF (L : List Int) (k : Nat) : List Int := flat3 (fun i => (L.getD i 0, 0, 0)) k
def zds (n : Nat) : List DK := List.replicate n default
theorem zds_at {n i : Nat} : dk (zds n) i = default := by
 unfold dk zds
 rcases Nat.lt_or_ge i n with h | h
 · simp [List.getD, h]
 · simp [List.getD, Nat.not_lt.2 h]
def NewGood (L : List Int) (t : Int) : Prop := (1 ≤ t ∧ t ≤ 4) ∧ MemGood (wordsF L L.length) L.length (zds t.toNat)
def NewSays (L : List Int) (t : Int) (m : Nat) (fs : List Int) (n : Nat) (ds : List DK) (ok : Bool) : Prop :=
 (ok = true ∧ NewGood L t ∧ m = L.length ∧ fs = wordsF L m ∧ n = t.toNat ∧ ds = zds n) ∨ (ok = false ∧ ¬ NewGood L t ∧ m = 0 ∧ fs = [] ∧ n = 0 ∧ ds = [])
theorem made_descs {n : Nat} : ∀ i, i < n → AtF (madeCells (Value.agg (DescC 0 0 none 0 0 0 none 0 0)).cells (n * 5)).toList i (dk (zds n) i) (.slice none 0 0) (.slice none 0 0) := by
 intro i hi
 rw [zds_at]
 have m0 : (i * 5) % 5 = 0 := by omega
 have m1 : (i * 5 + 1) % 5 = 1 := by omega
 have m2 : (i * 5 + 2) % 5 = 2 := by omega
 have m3 : (i * 5 + 3) % 5 = 3 := by omega
 have m4 : (i * 5 + 4) % 5 = 4 := by omega
 refine ⟨?_, ?_, ?_, ?_, ?_⟩
 · simp [madeCells, show i * 5 < n * 5 by omega, Value.cells]; rfl
 · simp [madeCells, show i * 5 + 1 < n * 5 by omega, Value.cells, m1]; rfl
 · simp [madeCells, show i * 5 + 2 < n * 5 by omega, Value.cells, m2]
 · simp [madeCells, show i * 5 + 3 < n * 5 by omega, Value.cells, m3]; rfl
 · simp [madeCells, show i * 5 + 4 < n * 5 by omega, Value.cells, m4]
def FNew (v d : Value) : Nat → Value := fun a => if a = 0 then v else if a = 1 then d else .slice none 0 0
theorem memO_new {w : World} {base g n m : Nat} {fs : List Int} {v : Value} (ho : w.ownsRow base 75 3 v m (fs.map I)) (hd : w.ownsRow base 104 5 (SL g n) n (madeCells (Value.agg (DescC 0 0 none 0 0 0 none 0 0)).cells (n * 5)).toList) (hne : v.ownBlock ≠ some g) :
   MemO w base (FNew v (SL g n)) m fs n (zds n) := by
 refine ⟨ho, by simp [zds], ⟨_, hd, fun i hi => ?_⟩, fun i hi => ?_, fun i hi => ?_, ?_⟩
 · have h := made_descs i hi
   simpa [FNew, show 2 + 2 * i ≠ 0 by omega, show 2 + 2 * i ≠ 1 by omega, show 3 + 2 * i ≠ 0 by omega, show 3 + 2 * i ≠ 1 by omega] using h
 · rw [zds_at]
   simp only [FNew, show 2 + 2 * i ≠ 0 by omega, show 2 + 2 * i ≠ 1 by omega, if_false]
   exact World.ownsRow_nil _ _ _ _
 · rw [zds_at]
   simp only [FNew, show 3 + 2 * i ≠ 0 by omega, show 3 + 2 * i ≠ 1 by omega, if_false]
   exact World.ownsRow_nil _ _ _ _
 · intro a b ha hb hab k h1 h2
   unfold FNew at h1 h2
   by_cases a0 : a = 0
   · rw [if_pos a0] at h1
     rw [if_neg (show ¬ b = 0 by omega)] at h2
     by_cases b1 : b = 1
     · rw [if_pos b1] at h2
       cases h2
       exact hne h1
     · rw [if_neg b1] at h2
       cases h2
   · rw [if_neg a0] at h1
     by_cases a1 : a = 1
     · rw [if_pos a1] at h1
       cases h1
       by_cases b0 : b = 0
       · rw [if_pos b0] at h2
         exact hne h2
       · rw [if_neg b0, if_neg (show ¬ b = 1 by omega)] at h2
         cases h2
     · rw [if_neg a1] at h1
       cases h1
theorem memO_none (w : World) (base : Nat) : MemO w base (FNew (.slice none 0 0) (.slice none 0 0)) 0 [] 0 [] := by
 refine ⟨World.ownsRow_nil _ _ _ _, rfl, ⟨[], World.ownsRow_nil _ _ _ _, fun i hi => by omega⟩, fun i hi => by omega, fun i hi => by omega, ?_⟩
 intro a b ha hb hab k h1 h2
 unfold FNew at h1
 split at h1
 · cases h1
 · split at h1 <;> cases h1
theorem int_apart {w : World} {p o n bm : Nat} {L : List Int} {cs : Array Value} {T : TypeId} (h : IntAt w (some ⟨p, o, none⟩) n L) (hn : 0 < n) (hb : Box w bm cs T) (hcs : ∀ (i : Nat) (x : Int), cs[i]? ≠ some (I x)) : p ≠ bm := by
 rintro rfl
 rcases h.2.2 with h0 | ⟨p', o', he, g⟩
 · omega
 · cases he
   have h1 := g 0 hn
   rw [hb.cell] at h1
   exact hcs _ _ h1
theorem int_grown {w w' : World} {a : Option Addr} {n bm : Nat} {L : List Int} (h : IntAt w a n L) (hg : w.grownBy w' (some bm)) (hne : ∀ p, a = some p → 0 < n → p.block ≠ bm) : IntAt w' a n L := by
 refine ⟨h.1, h.2.1, ?_⟩
 rcases h.2.2 with h0 | ⟨p, o, rfl, g⟩
 · exact .inl h0
 · by_cases hn : n = 0
   · exact .inl hn
   · exact .inr ⟨p, o, rfl, fun i hi => far_cell hg (g i hi) (hne _ rfl (by omega))⟩
theorem kInfoOp : (Tryz.prog.info? 82).map (fun i => (i.zero, i.size, i.bytes)) = some (some (.agg #[.int .i64 0, .int .i64 0, .int .i64 0]), 3, 24) := by kernel_rfl


end
section
open Go.ChangeShapes Go.WideShapes Go.ChangeAt Go.RowKit Go.Joins
structure TD where
 n0 : Nat
 fs : List Int
 pc : Int
 on : Bool
 n1 : Nat
 gs : List Int
 n2 : Nat
 hs : List Int
abbrev ThV (v0 v1 v2 : Value) (pc : Int) (on : Bool) : Value := .agg #[v0, .int .i64 pc, .bool on, v1, v2]
def LAt (k : Nat) (w : World) (v : Value) (n : Nat) (fs : List Int) : Prop := ∃ a c, v = .slice a n c ∧ ((a = none → c = 0) ∧ n ≤ c) ∧ KAt k w a n fs
theorem LAt.below {k : Nat} {w w' : World} {v : Value} {n : Nat} {fs : List Int} (h : LAt k w v n fs) {B : Nat} (hb : Below B w w') (hB : w.heap.size ≤ B) : LAt k w' v n fs := by
 obtain ⟨a, c, rfl, h1, h2⟩ := h
 exact ⟨a, c, rfl, h1, h2.below hb hB⟩
theorem owns_lAt {k : Nat} {w : World} {base : Nat} {e : TypeId} {n : Nat} {v : Value} {fs : List Int} (h : w.ownsRow base e k v n (fs.map I)) (hn : n ≤ 2097152) : LAt k w v n fs := by
 obtain ⟨a, c, e, hc⟩ := owns_slice h
 rcases owns_forms h with ⟨rfl, rfl⟩ | ⟨g, cap, rfl⟩
 · exact ⟨none, 0, rfl, ⟨fun _ => rfl, Nat.le_refl _⟩, owns_kAt h hn⟩
 · cases e
   exact ⟨_, c, rfl, ⟨(fun h => by cases h), hc⟩, owns_kAt h hn⟩
structure ThAt (w : World) (v0 v1 v2 : Value) (t : TD) : Prop where
 ops : LAt 3 w v0 t.n0 t.fs
 got : LAt 2 w v1 t.n1 t.gs
 stk : LAt 4 w v2 t.n2 t.hs
theorem ThAt.below {w w' : World} {v0 v1 v2 : Value} {t : TD} (h : ThAt w v0 v1 v2 t) {B : Nat} (hb : Below B w w') (hB : w.heap.size ≤ B) : ThAt w' v0 v1 v2 t :=
 ⟨h.ops.below hb hB, h.got.below hb hB, h.stk.below hb hB⟩
structure ThIn (w : World) (a0 a1 a2 : Option Addr) (t : TD) : Prop where
 ops : KAt 3 w a0 t.n0 t.fs
 got : KAt 2 w a1 t.n1 t.gs
 stk : KAt 4 w a2 t.n2 t.hs
theorem ThIn.below {w w' : World} {a0 a1 a2 : Option Addr} {t : TD} (h : ThIn w a0 a1 a2 t) {B : Nat} (hb : Below B w w') (hB : w.heap.size ≤ B) : ThIn w' a0 a1 a2 t :=
 ⟨h.ops.below hb hB, h.got.below hb hB, h.stk.below hb hB⟩
def Sep3 (v0 v1 v2 : Value) : Prop := (∀ k, v0.ownBlock = some k → v1.ownBlock ≠ some k) ∧ (∀ k, v0.ownBlock = some k → v2.ownBlock ≠ some k) ∧ (∀ k, v1.ownBlock = some k → v2.ownBlock ≠ some k)
structure ThO (w : World) (base : Nat) (v0 v1 v2 : Value) (t : TD) : Prop where
 ops : w.ownsRow base 82 3 v0 t.n0 (t.fs.map I)
 got : w.ownsRow base 115 2 v1 t.n1 (t.gs.map I)
 stk : w.ownsRow base 117 4 v2 t.n2 (t.hs.map I)
 sep : Sep3 v0 v1 v2
def TD.Small (t : TD) : Prop := t.n0 ≤ 2097152 ∧ t.n1 ≤ 2097152 ∧ t.n2 ≤ 2097152
theorem ThO.at {w : World} {base : Nat} {v0 v1 v2 : Value} {t : TD} (h : ThO w base v0 v1 v2 t) (hs : t.Small) : ThAt w v0 v1 v2 t := ⟨owns_lAt h.ops hs.1, owns_lAt h.got hs.2.1, owns_lAt h.stk hs.2.2⟩
theorem ThO.below {w w' : World} {base : Nat} {v0 v1 v2 : Value} {t : TD} (h : ThO w base v0 v1 v2 t) {B : Nat} (hb : Below B w w') (hB : w.heap.size ≤ B) : ThO w' base v0 v1 v2 t :=
 ⟨owns_below h.ops hb hB, owns_below h.got hb hB, owns_below h.stk hb hB, h.sep⟩
theorem ThO.weaken {w : World} {base base' : Nat} {v0 v1 v2 : Value} {t : TD} (h : ThO w base v0 v1 v2 t) (hb : base' ≤ base) : ThO w base' v0 v1 v2 t :=
 ⟨own_weaken h.ops hb, own_weaken h.got hb, own_weaken h.stk hb, h.sep⟩
def In3 (v0 v1 v2 : Value) (k : Nat) : Prop := v0.ownBlock = some k ∨ v1.ownBlock = some k ∨ v2.ownBlock = some k
theorem ThO.blk {w : World} {base : Nat} {v0 v1 v2 : Value} {t : TD} (h : ThO w base v0 v1 v2 t) {k : Nat} (hk : In3 v0 v1 v2 k) : base ≤ k ∧ k < w.heap.size := by
 rcases hk with hk | hk | hk
 · exact h.ops.lt k hk
 · exact h.got.lt k hk
 · exact h.stk.lt k hk
theorem ThO.heap {w w' : World} {base : Nat} {v0 v1 v2 : Value} {t : TD} (h : ThO w base v0 v1 v2 t) (he : ∀ k, In3 v0 v1 v2 k → w'.heap[k]? = w.heap[k]?) : ThO w' base v0 v1 v2 t :=
 ⟨owns_heap h.ops fun k hk => he k (.inl hk), owns_heap h.got fun k hk => he k (.inr (.inl hk)), owns_heap h.stk fun k hk => he k (.inr (.inr hk)), h.sep⟩
theorem ThO.set {w : World} {base : Nat} {v0 v1 v2 : Value} {t : TD} (h : ThO w base v0 v1 v2 t) {q : Addr} (hq : ¬ In3 v0 v1 v2 q.block) (u : Value) : ThO (w.setCell q u) base v0 v1 v2 t :=
 h.heap fun _ hk => Below.heap_setCell _ _ _ _ (fun e => hq (e ▸ hk))
def ThAns (w : World) (t : TD) (e : Ending) (w' : World) : Prop := ∃ v0 v1 v2, e = .returned (ThV v0 v1 v2 t.pc t.on) ∧ ThO w' w.heap.size v0 v1 v2 t ∧ Below w.heap.size w w'
theorem sl_blk {g n c k : Nat} (e : (Value.slice (some ⟨g, 0, none⟩) n c).ownBlock = some k) : g = k := Option.some.inj e
theorem Box.five {w : World} {b : Nat} {x0 x1 x2 x3 x4 : Value} {T : TypeId} (h : Box w b #[x0, x1, x2, x3, x4] T) :
   w.cell? ⟨b, 0, none⟩ = some x0 ∧ w.cell? ⟨b, 1, none⟩ = some x1 ∧ w.cell? ⟨b, 2, none⟩ = some x2 ∧ w.cell? ⟨b, 3, none⟩ = some x3 ∧ w.cell? ⟨b, 4, none⟩ = some x4 ∧
   w.frozen? ⟨b, 0, none⟩ = false ∧ w.frozen? ⟨b, 1, none⟩ = false ∧ w.frozen? ⟨b, 2, none⟩ = false ∧ w.frozen? ⟨b, 3, none⟩ = false ∧ w.frozen? ⟨b, 4, none⟩ = false :=
 ⟨h.cell 0, h.cell 1, h.cell 2, h.cell 3, h.cell 4, h.frozen 0, h.frozen 1, h.frozen 2, h.frozen 3, h.frozen 4⟩
theorem Box.four {w : World} {b : Nat} {x0 x1 x2 x3 : Value} {T : TypeId} (h : Box w b #[x0, x1, x2, x3] T) :
   w.cell? ⟨b, 0, none⟩ = some x0 ∧ w.cell? ⟨b, 1, none⟩ = some x1 ∧ w.cell? ⟨b, 2, none⟩ = some x2 ∧ w.cell? ⟨b, 3, none⟩ = some x3 ∧
   w.frozen? ⟨b, 0, none⟩ = false ∧ w.frozen? ⟨b, 1, none⟩ = false ∧ w.frozen? ⟨b, 2, none⟩ = false ∧ w.frozen? ⟨b, 3, none⟩ = false :=
 ⟨h.cell 0, h.cell 1, h.cell 2, h.cell 3, h.frozen 0, h.frozen 1, h.frozen 2, h.frozen 3⟩
def TD.mark (t : TD) (k : Int) : TD := { t with fs := asc k (t.n0 * 3), gs := asc (k + (t.n0 : Int) * 3) (t.n1 * 2), hs := asc (k + (t.n0 : Int) * 3 + (t.n1 : Int) * 2) (t.n2 * 4) }
def TD.off (t : TD) : Int := (t.n0 : Int) * 3 + (t.n1 : Int) * 2 + (t.n2 : Int) * 4
def celI (fs : List Int) : List Cel := fs.map Cel.i
theorem celI_nums {T : TypeId} {k n : Nat} {cs : List Cel} {fs : List Ty} (hs : Has (.l T k n cs) (.l T k fs)) (hf : ∀ t ∈ fs, t = .i) : celI (nums cs) = cs := by
 unfold celI nums
 rw [List.map_map]
 refine List.ext_getElem (by simp) fun j h1 h2 => ?_
 rw [List.getElem_map]
 cases hs with
 | l _ _ _ _ _ hk hl hh =>
   have hj : j < n * k := by omega
   have hk0 : 0 < k := Nat.pos_of_ne_zero fun e => by rw [e] at hj; simp at hj
   have hm : j % k < fs.length := by rw [hk]; exact Nat.mod_lt _ hk0
   have ht := hh j _ _ (List.getElem?_eq_getElem h2) (List.getElem?_eq_getElem hm)
   rw [hf _ (List.getElem_mem hm)] at ht
   obtain ⟨x, hx⟩ := ht.int
   simp [hx, numC]
theorem own_row {w : World} {base : Nat} {T : TypeId} {k n : Nat} {v : Value} {fs : List Int} (h : w.ownsRow base T k v n (fs.map I)) (hn : n ≤ 2097152) : Own w base v (.l T k n (celI fs)) (fun x => v.ownBlock = some x) := by
 have hl : fs.length = n * k := by have := h.1; simpa using this
 rcases owns_forms h with ⟨rfl, rfl⟩ | ⟨g, cap, rfl⟩
 · obtain rfl : fs = [] := List.length_eq_zero_iff.1 (by omega)
   exact .nil T k _ (fun x e => by cases e)
 · refine .l g cap T k n (celI fs) (fs.map I) _ (fun _ _ => False) h (by unfold celI; simpa using hl) hn (fun j v c hv hc => ?_) (fun _ h => h) (fun _ _ _ _ h => h.elim) (fun x => ⟨fun e => .inl (Option.some.inj e).symm, ?_⟩)
   · unfold celI at hc
     rw [List.getElem?_map] at hv hc
     have hj : j < fs.length := by
       rcases Nat.lt_or_ge j fs.length with h1 | h1
       · exact h1
       · rw [List.getElem?_eq_none h1] at hv; cases hv
     rw [List.getElem?_eq_getElem hj] at hv hc
     cases hv
     cases hc
     exact .i _ _ (fun _ h => h)
   · rintro (rfl | ⟨_, _, h⟩)
     · rfl
     · exact h.elim
theorem trip_at {w : World} {a : Option Addr} {n c : Nat} {T : TypeId} {fs : List Int} (h : TripAt w a n fs) : At false w (.slice a n c) (.l T 3 n (celI fs)) := by
 refine .l a T 3 n c (celI fs) (fs.map I) (by rw [List.length_map]; exact h.1) (by unfold celI; rw [List.length_map]; exact h.1) (by have := h.2.1; omega) (fun e => by cases e) ?_ (fun j v c hv hc => ?_)
 · rcases h.2.2 with h0 | ⟨b, o, h1, h2⟩
   · exact .inl h0
   · refine .inr ⟨b, o, h1, fun j hj => ?_⟩
     have hjl : j < fs.length := by rw [h.1]; exact hj
     rw [h2 j hj, List.getElem?_map, List.getElem?_eq_getElem hjl]
     simp [List.getD, hjl]
 · unfold celI at hc
   rw [List.getElem?_map] at hv hc
   have hj : j < fs.length := by
     rcases Nat.lt_or_ge j fs.length with h1 | h1
     · exact h1
     · rw [List.getElem?_eq_none h1] at hv; cases hv
   rw [List.getElem?_eq_getElem hj] at hv hc
   cases hv
   cases hc
   exact .i _
def thNew (c : Cel) : List Cel := [c, .i 0, .b false, .l 115 2 0 [], .l 117 4 0 []]
theorem own_thNew {w : World} {base : Nat} {v0 v1 v2 : Value} {n : Nat} {cs : List Cel} (h : ThO w base v0 v1 v2 ⟨n, nums cs, 0, false, 0, [], 0, []⟩) (hs : Has (.l 82 3 n cs) (.l 82 3 tyOp)) (hn : n ≤ 2097152) :
   ∃ S, OwnL w base [v0, .int .i64 0, .bool false, v1, v2] (thNew (.l 82 3 n cs)) S ∧ ∀ x, S x → In3 v0 v1 v2 x := by
 have o0 := own_row h.ops hn
 have o1 := own_row (fs := []) h.got (by show (0 : Nat) ≤ _; omega)
 have o2 := own_row (fs := []) h.stk (by show (0 : Nat) ≤ _; omega)
 rw [celI_nums hs iOp] at o0
 have L4 : OwnL w base [v2] [.l 117 4 0 []] (fun x => v2.ownBlock = some x) := o2.oneL
 have L3 := OwnL.cons (S' := fun x => v1.ownBlock = some x ∨ v2.ownBlock = some x) o1 L4 (fun x hx => h.sep.2.2 x hx) (fun _ => Iff.rfl)
 have L2 := OwnL.cons (S' := fun x => v1.ownBlock = some x ∨ v2.ownBlock = some x) (S0 := fun _ => False) (.b false _ (fun _ h => h)) L3 (fun _ h => h.elim) (fun x => by simp)
 have L1 := OwnL.cons (S' := fun x => v1.ownBlock = some x ∨ v2.ownBlock = some x) (S0 := fun _ => False) (.i 0 _ (fun _ h => h)) L2 (fun _ h => h.elim) (fun x => by simp)
 have L0 := OwnL.cons (S' := fun x => In3 v0 v1 v2 x) o0 L1 (fun x hx => by rintro (e | e); exact h.sep.1 x hx e; exact h.sep.2.1 x hx e) (fun _ => Iff.rfl)
 exact ⟨_, L0, fun _ h => h⟩
def thsNew (cl : List Cel) (k : Nat) : List Cel := (List.range k).flatMap fun i => thNew (nthC cl i)
theorem thsNew_succ (cl : List Cel) (k : Nat) : thsNew cl (k + 1) = thsNew cl k ++ thNew (nthC cl k) := by
 unfold thsNew
 rw [List.range_succ, List.flatMap_append]
 simp
theorem thsNew_len (cl : List Cel) (k : Nat) : (thsNew cl k).length = k * 5 := flat_len k (fun _ _ => rfl)
theorem list_elem {w : World} {la : Option Addr} {n lc k : Nat} {cl : List Cel} (hl : At true w (.slice la n lc) (.l 55 1 n cl)) (hlh : Has (.l 55 1 n cl) (.l 55 1 tyOpS)) (hk : k < n) :
   ∃ lp lo pa pc pn pcs, la = some ⟨lp, lo, none⟩ ∧ w.cell? ⟨lp, lo + k, none⟩ = some (.slice pa pn pc) ∧ nthC cl k = .l 82 3 pn pcs ∧ LAt 3 w (.slice pa pn pc) pn (nums pcs) ∧ Has (.l 82 3 pn pcs) (.l 82 3 tyOp) ∧ pn ≤ 2097152 := by
 obtain ⟨a, c, vs, e, h1, h2, hn, -, h3, h4⟩ := hl.openL
 cases e
 rcases h3 with h0 | ⟨lp, lo, rfl, g⟩
 · omega
 have hv : vs[k]? = some (vs[k]'(by omega)) := List.getElem?_eq_getElem (by omega)
 have hc : cl[k]? = some (cl[k]'(by omega)) := List.getElem?_eq_getElem (by omega)
 have hA := h4 k _ _ hv hc
 have hT : Has (cl[k]'(by omega)) (.l 82 3 tyOp) := by
   cases hlh with
   | l _ _ _ _ _ hk' hl' hh => exact hh k _ _ hc (by rw [Nat.mod_one]; rfl)
 obtain ⟨pn, pcs, e, -⟩ := hT.list
 rw [e] at hA hT hc
 obtain ⟨pa, pc, vs', e', -, -, hpn, hq, -, -⟩ := hA.openL
 rw [e'] at hA hv
 refine ⟨lp, lo, pa, pc, pn, pcs, rfl, (g k (by omega)).trans hv, ?_, ⟨pa, pc, rfl, hq rfl, at_kAt hA hT iOp⟩, hT, hpn⟩
 unfold nthC
 simp [List.getD, hc]
end
section
open Go.ChangeShapes Go.WideShapes Go.ChangeAt Go.RowKit
theorem within_g (x lo hi : Int) (w : World) : Calls Tryz.prog 52 #[.int .i64 x, .int .i64 lo, .int .i64 hi] w fun e w' => e = .returned (.bool (inB x lo hi)) ∧ w' = w := by
 by_cases h0 : lo ≤ x
 · by_cases h1 : x ≤ hi
   · rw [inB_yes ⟨h0, h1⟩]
     go_enter Tryz.func52, Tryz.ntmps52
     go_wp2
     go_ret
     exact ⟨rfl, rfl⟩
   · rw [inB_no (fun h => h1 h.2)]
     go_enter Tryz.func52, Tryz.ntmps52
     go_wp2
     go_ret
     exact ⟨rfl, rfl⟩
 · rw [inB_no (fun h => h0 h.1)]
   go_enter Tryz.func52, Tryz.ntmps52
   go_wp2
   go_ret
   exact ⟨rfl, rfl⟩
theorem isMark_any (n t s : Int) (w : World) : Calls Tryz.prog 100 #[WordV n t s] w fun e w' => e = .returned (.bool (t != 0)) ∧ Below w.heap.size w w' := by
 go_enter Tryz.func100, Tryz.ntmps100
 go_wp2
 go_ret
 exact ⟨rfl, (Below.refl _ w).alloc (Nat.le_refl _) _⟩
end
section
open Go.ChangeShapes Go.WideShapes Go.ChangeAt Go.RowKit Go.Joins
theorem implWordOk_any (n t s th : Int) (w : World) : Calls Tryz.prog 99 #[WordV n t s, .int .i64 th] w fun e w' => e = .returned (.bool (wordOkM n t s th)) ∧ Below w.heap.size w w' := by
 have hb0 : Below w.heap.size w (w.alloc (.cells #[.int .i64 n, .int .i64 t, .int .i64 s] 75)) := (Below.refl _ w).alloc (Nat.le_refl _) _
 have HB : Hid _ := hb0
 clear hb0
 obtain ⟨B, hB⟩ : ∃ B, wordOkM n t s th = B := ⟨_, rfl⟩
 rw [hB]
 have HM : Hid (wordOkM n t s th = B) := hB
 clear hB
 have HW : Hid (∀ w1, Below (w.heap.size + 1) (w.alloc (.cells #[.int .i64 n, .int .i64 t, .int .i64 s] 75)) w1 → w1.cell? ⟨w.heap.size, 0, none⟩ = some (.int .i64 n) ∧ w1.cell? ⟨w.heap.size, 1, none⟩ = some (.int .i64 t) ∧ w1.cell? ⟨w.heap.size, 2, none⟩ = some (.int .i64 s) ∧ Below w.heap.size w w1) := fun w1 h =>
   ⟨by rw [h.cell (by simp)]; simp, by rw [h.cell (by simp)]; simp, by rw [h.cell (by simp)]; simp, HB.out.trans (h.mono (by simp))⟩
 clear HB
 by_cases ht : t = 0
 · subst ht
   go_enter Tryz.func99, Tryz.ntmps99
   go_wp2_with fail
   refine (isMark_any n 0 s _).mono ?_
   rintro e w1 ⟨rfl, hb1⟩
   obtain ⟨c0, c1, c2, hb⟩ := HW.out w1 (by simpa using hb1)
   rw [show ((0 : Int) != 0) = false from rfl]
   clear hb1 HW
   rcases hi : inB n 0 1000 with _ | _
   · obtain rfl : B = false := by rw [← HM.out]; simp [wordOkM, hi]
     have HI : Hid (inB n 0 1000 = false) := hi
     clear HM hi
     go_wp2_with fail
     refine (within_g n 0 1000 _).mono ?_
     rintro e w2 ⟨rfl, rfl⟩
     rw [HI.out]
     go_wp2
     go_ret
     exact ⟨rfl, hb⟩
   · have HI : Hid (inB n 0 1000 = true) := hi
     have HS : Hid ((s == 0) = B) := by show _ = _; rw [← HM.out, Bool.eq_iff_iff]; simp [wordOkM, hi]
     clear HM hi
     go_wp2_with fail
     refine (within_g n 0 1000 _).mono ?_
     rintro e w2 ⟨rfl, rfl⟩
     rw [HI.out]
     go_wp2
     go_ret
     exact ⟨by rw [HS.out]; rfl, hb⟩
 · have ht' : (t != 0) = true := by simpa using ht
   go_enter Tryz.func99, Tryz.ntmps99
   go_wp2_with fail
   refine (isMark_any n t s _).mono ?_
   rintro e w1 ⟨rfl, hb1⟩
   obtain ⟨c0, c1, c2, hb⟩ := HW.out w1 (by simpa using hb1)
   rw [ht']
   clear hb1 HW ht'
   by_cases hn : n = 0
   · subst hn
     rcases hi : inB t 1 th with _ | _
     · obtain rfl : B = false := by rw [← HM.out]; simp [wordOkM, ht, hi]
       have HI : Hid (inB t 1 th = false) := hi
       clear HM ht hi
       go_wp2_with fail
       refine (within_g t 1 th _).mono ?_
       rintro e w2 ⟨rfl, rfl⟩
       rw [HI.out]
       go_wp2
       go_ret
       exact ⟨rfl, hb⟩
     · have HI : Hid (inB t 1 th = true) := hi
       have HS : Hid (inB s 1 1000000 = B) := by show _ = _; rw [← HM.out]; simp [wordOkM, ht, hi]
       clear HM ht hi
       go_wp2_with fail
       refine (within_g t 1 th _).mono ?_
       rintro e w2 ⟨rfl, rfl⟩
       rw [HI.out]
       go_wp2_with fail
       refine (within_g s 1 1000000 _).mono ?_
       rintro e w3 ⟨rfl, rfl⟩
       rw [HS.out]
       go_wp2
       go_ret
       exact ⟨rfl, hb⟩
   · have hn' : (n == 0) = false := by simpa using hn
     obtain rfl : B = false := by rw [← HM.out]; simp [wordOkM, ht, hn]
     clear HM hn ht
     go_wp2
     go_ret
     exact ⟨rfl, hb⟩
end
section
open Go.ChangeShapes Go.WideShapes Go.ChangeAt Go.RowKit
theorem equalI_any (a1 a2 : Option Addr) (n1 n2 c1 c2 : Nat) (xs ys : List Int) (w : World) (h1 : IntAt w a1 n1 xs) (h2 : IntAt w a2 n2 ys) :
   Calls Tryz.prog 141 #[.slice a1 n1 c1, .slice a2 n2 c2] w fun e w' => e = .returned (.bool (decide (xs = ys))) ∧ Below w.heap.size w w' := by
 have H1 : Hid (IntAt w a1 n1 xs) := h1
 have H2 : Hid (IntAt w a2 n2 ys) := h2
 have L1 : Hid (xs.length = n1) := h1.1
 have L2 : Hid (ys.length = n2) := h2.1
 have b1 := h1.2.1
 have b2 := h2.2.1
 obtain ⟨B, hB⟩ : ∃ B, decide (xs = ys) = B := ⟨_, rfl⟩
 rw [hB]
 have HB : Hid (decide (xs = ys) = B) := hB
 clear h1 h2 hB
 by_cases hn : n1 = n2
 · subst hn
   go_enter Tryz.func141, Tryz.ntmps141
   go_wp2
   go_loopw [13] (fun i wr => ∃ k : Nat, k ≤ n1 ∧ i = .int .i64 k ∧ xs.take k = ys.take k ∧ Below w.heap.size w wr) (fun i _ => n1 - (intOf i).toNat)
   case atStart => exact ⟨0, Nat.zero_le _, rfl, rfl, Below.refl _ _⟩
   case round =>
     obtain ⟨k, hk1, rfl, ht, hb⟩ := hrel
     have HT : Hid (xs.take k = ys.take k) := ht
     clear ht
     by_cases hlt1 : k < n1
     · rcases (H1.out.below hb (Nat.le_refl _)).2.2 with h | ⟨p1, o1, rfl, g1⟩
       · omega
       rcases (H2.out.below hb (Nat.le_refl _)).2.2 with h | ⟨p2, o2, rfl, g2⟩
       · omega
       obtain ⟨x, hx⟩ : ∃ x, xs.getD k 0 = x := ⟨_, rfl⟩
       obtain ⟨y, hy⟩ : ∃ y, ys.getD k 0 = y := ⟨_, rfl⟩
       have e1 := g1 k hlt1
       have e2 := g2 k hlt1
       rw [hx] at e1
       rw [hy] at e2
       have HX : Hid (xs.getD k 0 = x) := hx
       have HY : Hid (ys.getD k 0 = y) := hy
       clear g1 g2 hx hy
       go_wp2
       go_region
       go_wp2
       · have hd : (x != y) = true := by assumption
         go_ret
         refine ⟨?_, hb.drew⟩
         have e : xs ≠ ys := fun e => by rw [← HX.out, ← HY.out, e] at hd; simp at hd
         rw [← HB.out]
         simp [e]
       · have hd : (x != y) = false := by assumption
         have l1 := L1.out
         have l2 := L2.out
         exact ⟨⟨k + 1, by omega, by go_num, take_nextI (by omega) (by omega) HT.out (by rw [HX.out, HY.out]; simpa using hd), hb.drew⟩, by simp [intOf]; omega⟩
     · obtain rfl : k = n1 := by omega
       go_wp2
       go_ret
       refine ⟨?_, hb⟩
       have l1 := L1.out
       have l2 := L2.out
       have e : xs = ys := by
         have e0 := HT.out
         rwa [List.take_of_length_le (by omega), List.take_of_length_le (by omega)] at e0
       rw [← HB.out]
       simp [e]
 · have hne : ((n1 : Int) != (n2 : Int)) = true := by simp; omega
   have hxy : xs ≠ ys := fun e => by have l1 := L1.out; have l2 := L2.out; rw [e] at l1; omega
   have HX : Hid (xs ≠ ys) := hxy
   clear hxy
   go_enter Tryz.func141, Tryz.ntmps141
   go_wp2
   go_ret
   refine ⟨?_, Below.refl _ _⟩
   rw [← HB.out]
   simp [HX.out]
theorem implResSame_any (a1 a2 : Option Addr) (n1 n2 c1 c2 : Nat) (k1 k2 : Int) (xs ys : List Int) (w : World) (h1 : IntAt w a1 n1 xs) (h2 : IntAt w a2 n2 ys) :
   Calls Tryz.prog 125 #[ResV k1 a1 n1 c1, ResV k2 a2 n2 c2] w fun e w' => e = .returned (.bool (decide (k1 = k2 ∧ xs = ys))) ∧ Below w.heap.size w w' := by
 have H1 : Hid (IntAt w a1 n1 xs) := h1
 have H2 : Hid (IntAt w a2 n2 ys) := h2
 obtain ⟨B, hB⟩ : ∃ B, decide (k1 = k2 ∧ xs = ys) = B := ⟨_, rfl⟩
 rw [hB]
 have HB : Hid (decide (k1 = k2 ∧ xs = ys) = B) := hB
 clear h1 h2 hB
 by_cases hk : k1 = k2
 · subst hk
   go_enter Tryz.func125, Tryz.ntmps125
   go_wp2_with fail
   have hb0 : Below w.heap.size w ((w.alloc (.cells #[.int .i64 k1, .slice a1 n1 c1] 91)).alloc (.cells #[.int .i64 k1, .slice a2 n2 c2] 91)) := ((Below.refl _ w).alloc (Nat.le_refl _) _).alloc (by simp) _
   refine (equalI_any a1 a2 n1 n2 c1 c2 xs ys _ (H1.out.below hb0 (Nat.le_refl _)) (H2.out.below hb0 (Nat.le_refl _))).mono ?_
   rintro e w1 ⟨rfl, hb1⟩
   have hb2 := hb0.trans (hb1.mono (by simp; omega))
   clear hb0 hb1
   by_cases hx : xs = ys
   · rw [show decide (xs = ys) = true from decide_eq_true hx]
     have HX : Hid (xs = ys) := hx
     clear hx
     go_wp2
     go_ret
     exact ⟨by rw [← HB.out]; simp [HX.out], hb2⟩
   · rw [show decide (xs = ys) = false from decide_eq_false hx]
     have HX : Hid (¬ xs = ys) := hx
     clear hx
     go_wp2
     go_ret
     exact ⟨by rw [← HB.out]; simp [HX.out], hb2⟩
 · have hk' : (k1 == k2) = false := by simpa using hk
   have HK : Hid (¬ k1 = k2) := hk
   clear hk
   go_enter Tryz.func125, Tryz.ntmps125
   go_wp2
   go_ret
   refine ⟨?_, ((Below.refl _ _).alloc (Nat.le_refl _) _).alloc (by simp) _⟩
   rw [← HB.out]
   simp [HK.out]
end
end Go.Proofs.YtcfimaffeopbbaaGreatDoor
