/- Texts joined: MemO, CloneO, AnewW, IsF, LawTH0. -/
import Derived.Test.YtlkdjeneggfhgaaGreatDoorQW32
import Derived.Lib.LazyBuf
import Derived.Deep.RegionHeld3
import Derived.Test.YtlkdjeneggfhgaaGreatDoorQW01
import Derived.WalkKit
import Derived.LaidEql
import Derived.Stop.Asserts
import Derived.RowKitTokens
set_option maxHeartbeats 2000000
set_option maxRecDepth 100000
namespace Go.Proofs.YtlkdjeneggfhgaaGreatDoor
section
open Go.ChangeShapes Go.WideShapes Go.ChangeAt Go.RowKit Go.Joins
theorem owns_trip {w : World} {base : Nat} {e : TypeId} {n c : Nat} {a : Option Addr} {fs : List Int} (h : w.ownsRow base e 3 (.slice a n c) n (fs.map I)) (hn : n ≤ 1048576) : TripAt w a n fs := by
 rcases owns_forms h with ⟨h2, h3⟩ | ⟨g, cap, hv⟩
 · subst h3
   exact ⟨by have := h.1; simpa using this, by omega, .inl rfl⟩
 · cases hv
   exact own_tripAt h hn
theorem owns_ints {w : World} {base : Nat} {e : TypeId} {n c : Nat} {a : Option Addr} {fs : List Int} (h : w.ownsRow base e 1 (.slice a n c) n (fs.map I)) (hn : n ≤ 1048576) : IntAt w a n fs := by
 obtain ⟨a', c', hv, hi⟩ := own_at h (by omega)
 cases hv
 exact hi
def Sep (F : Nat → Value) (N : Nat) : Prop := ∀ a b, a < N → b < N → a ≠ b → ∀ k, (F a).ownBlock = some k → (F b).ownBlock ≠ some k
def AtF (vs : List Value) (i : Nat) (d : DK) (v u : Value) : Prop :=
 vs[i * 5]? = some (I d.sq) ∧ vs[i * 5 + 1]? = some (I d.st) ∧ vs[i * 5 + 2]? = some v ∧ vs[i * 5 + 3]? = some (I d.cd) ∧ vs[i * 5 + 4]? = some u
theorem AtF.set {vs : List Value} {i : Nat} {d : DK} {v u : Value} (h : AtF vs i d v u) {j : Nat} (hj : j < i * 5 ∨ i * 5 + 4 < j) (x : Value) : AtF (vs.set j x) i d v u := by
 obtain ⟨h0, h1, h2, h3, h4⟩ := h
 unfold AtF
 rw [List.getElem?_set_ne (by omega), List.getElem?_set_ne (by omega), List.getElem?_set_ne (by omega), List.getElem?_set_ne (by omega), List.getElem?_set_ne (by omega)]
 exact ⟨h0, h1, h2, h3, h4⟩
structure DescO (w : World) (base : Nat) (F : Nat → Value) (n : Nat) (ds : List DK) : Prop where
 len : ds.length = n
 descs : ∃ vs, w.ownsRow base 149 5 (F 1) n vs ∧ ∀ i, i < n → AtF vs i (dk ds i) (F (2 + 2 * i)) (F (3 + 2 * i))
 ents : ∀ i, i < n → w.ownsRow base 154 3 (F (2 + 2 * i)) (dk ds i).en ((dk ds i).es.map I)
 ints : ∀ i, i < n → w.ownsRow base 3 1 (F (3 + 2 * i)) (dk ds i).rn ((dk ds i).rs.map I)
 sep : Sep F (2 + 2 * n)
structure MemO (w : World) (base : Nat) (F : Nat → Value) (m : Nat) (fs : List Int) (n : Nat) (ds : List DK) : Prop where
 words : w.ownsRow base 151 3 (F 0) m (fs.map I)
 descO : DescO w base F n ds
abbrev MemF (F : Nat → Value) : Value := .agg #[F 0, F 1]
def Small (n : Nat) (ds : List DK) : Prop := ∀ i, i < n → (dk ds i).en ≤ 1048576 ∧ (dk ds i).rn ≤ 1048576
theorem DescO.heap {w w' : World} {base : Nat} {F : Nat → Value} {n : Nat} {ds : List DK} (h : DescO w base F n ds) (he : ∀ a, 1 ≤ a → a < 2 + 2 * n → ∀ k, (F a).ownBlock = some k → w'.heap[k]? = w.heap[k]?) : DescO w' base F n ds := by
 obtain ⟨vs, h1, h2⟩ := h.descs
 exact ⟨h.len, ⟨vs, owns_heap h1 (he 1 (by omega) (by omega)), h2⟩, fun i hi => owns_heap (h.ents i hi) (he _ (by omega) (by omega)), fun i hi => owns_heap (h.ints i hi) (he _ (by omega) (by omega)), h.sep⟩
theorem DescO.below {w w' : World} {base : Nat} {F : Nat → Value} {n : Nat} {ds : List DK} (h : DescO w base F n ds) {B : Nat} (hb : Below B w w') (hB : w.heap.size ≤ B) : DescO w' base F n ds := by
 obtain ⟨vs, h1, h2⟩ := h.descs
 exact ⟨h.len, ⟨vs, owns_below h1 hb hB, h2⟩, fun i hi => owns_below (h.ents i hi) hb hB, fun i hi => owns_below (h.ints i hi) hb hB, h.sep⟩
theorem MemO.below {w w' : World} {base : Nat} {F : Nat → Value} {m : Nat} {fs : List Int} {n : Nat} {ds : List DK} (h : MemO w base F m fs n ds) {B : Nat} (hb : Below B w w') (hB : w.heap.size ≤ B) : MemO w' base F m fs n ds :=
 ⟨owns_below h.words hb hB, h.descO.below hb hB⟩
theorem MemO.heap {w w' : World} {base : Nat} {F : Nat → Value} {m : Nat} {fs : List Int} {n : Nat} {ds : List DK} (h : MemO w base F m fs n ds) (he : ∀ a, a < 2 + 2 * n → ∀ k, (F a).ownBlock = some k → w'.heap[k]? = w.heap[k]?) : MemO w' base F m fs n ds :=
 ⟨owns_heap h.words (he 0 (by omega)), h.descO.heap fun a _ ha => he a ha⟩
theorem DescO.weaken {w : World} {base base' : Nat} {F : Nat → Value} {n : Nat} {ds : List DK} (h : DescO w base F n ds) (hb : base' ≤ base) : DescO w base' F n ds := by
 obtain ⟨vs, h1, h2⟩ := h.descs
 exact ⟨h.len, ⟨vs, own_weaken h1 hb, h2⟩, fun i hi => own_weaken (h.ents i hi) hb, fun i hi => own_weaken (h.ints i hi) hb, h.sep⟩
theorem MemO.weaken {w : World} {base base' : Nat} {F : Nat → Value} {m : Nat} {fs : List Int} {n : Nat} {ds : List DK} (h : MemO w base F m fs n ds) (hb : base' ≤ base) : MemO w base' F m fs n ds :=
 ⟨own_weaken h.words hb, h.descO.weaken hb⟩
theorem DescO.at {w : World} {base : Nat} {F : Nat → Value} {n : Nat} {ds : List DK} (h : DescO w base F n ds) (hn : n ≤ 1048576) (hs : Small n ds) : ∃ a c, F 1 = .slice a n c ∧ DescAt w a n ds ∧ CapAt w a n ds := by
 obtain ⟨vs, h1, h2⟩ := h.descs
 rcases owns_forms h1 with ⟨h3, h4⟩ | ⟨g, cap, hv⟩
 · subst h4
   exact ⟨none, 0, h3, ⟨h.len, by omega, .inl rfl⟩, .inl rfl⟩
 · rw [hv] at h1
   refine ⟨_, cap, hv, ⟨h.len, hn, .inr ⟨g, 0, rfl, fun i hi => ?_⟩⟩, .inr ⟨g, 0, rfl, fun i hi => ?_⟩⟩
   · obtain ⟨a0, a1, a2, a3, a4⟩ := h2 i hi
     obtain ⟨ea, ec, e1, _⟩ := owns_slice (h.ents i hi)
     obtain ⟨ra, rc, e2, _⟩ := owns_slice (h.ints i hi)
     have t1 := h.ents i hi
     have t2 := h.ints i hi
     rw [e1] at t1 a2
     rw [e2] at t2 a4
     refine ⟨ea, ec, ra, rc, ⟨?_, ?_, ?_, ?_, ?_⟩, owns_trip t1 (hs i hi).1, owns_ints t2 (hs i hi).2⟩
     · rw [Nat.zero_add]; exact own_cellV h1 a0
     · rw [Nat.zero_add]; exact own_cellV h1 a1
     · rw [Nat.zero_add]; exact own_cellV h1 a2
     · rw [Nat.zero_add]; exact own_cellV h1 a3
     · rw [Nat.zero_add]; exact own_cellV h1 a4
   · obtain ⟨a0, a1, a2, a3, a4⟩ := h2 i hi
     obtain ⟨ea, ec, e1, hc⟩ := owns_slice (h.ents i hi)
     rw [e1] at a2
     exact ⟨ea, ec, by rw [Nat.zero_add]; exact own_cellV h1 a2, hc⟩
theorem MemO.at {w : World} {base : Nat} {F : Nat → Value} {m : Nat} {fs : List Int} {n : Nat} {ds : List DK} (h : MemO w base F m fs n ds) (hm : m ≤ 1048576) : ∃ a c, F 0 = .slice a m c ∧ TripAt w a m fs := by
 obtain ⟨a, c, e, _⟩ := owns_slice h.words
 have t := h.words
 rw [e] at t
 exact ⟨a, c, e, owns_trip t hm⟩
theorem MemO.open {w : World} {base : Nat} {F : Nat → Value} {m : Nat} {fs : List Int} {n : Nat} {ds : List DK} (h : MemO w base F m fs n ds) (hm : m ≤ 1048576) (hn : n ≤ 1048576) (hs : Small n ds) :
   ∃ wa wc da dc, MemF F = MemV wa m wc da n dc ∧ F 0 = .slice wa m wc ∧ F 1 = .slice da n dc ∧ TripAt w wa m fs ∧ DescAt w da n ds ∧ CapAt w da n ds := by
 obtain ⟨wa, wc, e0, t⟩ := h.at hm
 obtain ⟨da, dc, e1, d, c⟩ := h.descO.at hn hs
 exact ⟨wa, wc, da, dc, by rw [MemF, e0, e1], e0, e1, t, d, c⟩
theorem own_emptyT {w : World} {base : Nat} {T : TypeId} {size : Nat} (hb : base ≤ w.heap.size) : (w.alloc (.cells #[] T)).ownsRow base T size (.slice (some ⟨w.heap.size, 0, none⟩) 0 0) 0 [] :=
 ⟨by simp, .inr ⟨w.heap.size, 0, #[], rfl, hb, (by show (w.heap.push _)[w.heap.size]? = _; simp), Nat.le_refl _, by unfold maxLen; omega, by simp, by simp⟩⟩
theorem eql_nil {P : Program} (w : World) {t e : TypeId} {a : Option Addr} {l c : Nat} (h : P.underlying t = some (.slice e)) : (binOp .eql t (.slice a l c) (.slice none 0 0)).run P w = .ok (.bool a.isNone) w := by
 simp [binOp, run_equal_slice_nil w t e a l c h]
theorem cell_alloc {w : World} {q : Addr} {u : Value} {o : Obj} (h : w.cell? q = some u) : (w.alloc o).cell? q = some u := by
 rw [World.cell?_of_block (Below.heap_alloc _ _ _ (World.block_lt_of_cell? w _ h))]
 exact h
theorem int_cell {w : World} {ad : Addr} {n : Nat} {es : List Int} {o : Obj} (h : IntAt w (some ad) n es) {j : Nat} {v : Value} (hj : (es.map I)[j]? = some v) : (w.alloc o).cell? (ad.add j) = some v := by
 refine cell_alloc ?_
 rw [List.getElem?_map] at hj
 have hl : j < es.length := by
   rcases Nat.lt_or_ge j es.length with h1 | h1
   · exact h1
   · rw [List.getElem?_eq_none h1] at hj; cases hj
 rcases h.2.2 with h0 | ⟨b, o, he, g⟩
 · have := h.1; omega
 · cases he
   have h1 := g j (by have := h.1; omega)
   have e : (⟨b, o, none⟩ : Addr).add j = ⟨b, o + j, none⟩ := by simp [Addr.add]
   rw [e, h1]
   rw [List.getElem?_eq_getElem hl] at hj
   simpa [List.getD, hl] using hj
theorem news3 {es : List Int} : ∀ v ∈ es.map I, v.oneCell' = true := by
 intro v hv
 simp at hv
 obtain ⟨x, _, rfl⟩ := hv
 rfl
theorem cloneI_o (a : Option Addr) (n c : Nat) (es : List Int) (w : World) (h : IntAt w a n es) (ha : a = none → c = 0) :
   Calls Tryz.prog 137 #[.slice a n c] w fun e w' => ∃ v, e = .returned v ∧ w'.ownsRow w.heap.size 3 1 v n (es.map I) ∧ Below w.heap.size w w' := by
 obtain ⟨i0, hi, hz0, hz1, hz2⟩ := info_parts infoInt
 rcases a with _ | ad
 · obtain rfl : c = 0 := ha rfl
   obtain rfl : n = 0 := by
     rcases h.2.2 with h0 | ⟨_, _, he, _⟩
     · exact h0
     · cases he
   have HV : Hid ((es.map I) = []) := by
     show _ = []
     rw [show es = [] from List.length_eq_zero_iff.1 (by have := h.1; simpa using this)]; rfl
   have hE : ∀ w : World, (binOp .eql 28 (.slice none 0 0) (.slice none 0 0)).run Tryz.prog w = .ok (.bool true) w := fun w => eql_nil w Tryz.underlying28
   clear h ha
   go_enter Tryz.func137, Tryz.ntmps137
   go_wp2
   go_ret
   exact ⟨_, rfl, by rw [HV.out]; exact World.ownsRow_nil _ _ _ _, Below.refl _ _⟩
 have hn := h.2.1
 have HS : Hid (((es.map I)).length = n * 1 ∧ (∀ j u, ((es.map I))[j]? = some u → (w.alloc (.cells #[] 3)).cell? (ad.add j) = some u) ∧ ∀ u ∈ (es.map I), u.oneCell' = true) := by
   exact ⟨by rw [List.length_map, h.1]; omega, fun j u hj => int_cell h hj, news_one⟩
 have hE : ∀ w : World, (binOp .eql 28 (.slice (some ad) n c) (.slice none 0 0)).run Tryz.prog w = .ok (.bool false) w := fun w => eql_nil w Tryz.underlying28
 clear h ha
 go_enter Tryz.func137, Tryz.ntmps137
 go_wp2_with
   (at_builtin
    refine wpList_append_own _ rfl _ _ 28 rfl w.heap.size 3 i0 (.int .i64 0) 1 8 Tryz.underlying28 hi hz0 hz1 hz2 rfl (by decide) (.slice (some ⟨w.heap.size, 0, none⟩) 0 0) 0 [] rfl (own_emptyT (Nat.le_refl _)) ad n c ((es.map I)) rfl HS.out.1 HS.out.2.1 HS.out.2.2 (by unfold maxLen; omega) (by omega) (by simp) ?_
    intro v' w2 own2 grow2 _)
 have hb2 : Below w.heap.size w w2 := ((Below.refl _ w).alloc (Nat.le_refl _) _).grown grow2 (by simp) (fun k e => by
   have h1 : w.heap.size = k := by simpa [Value.ownBlock] using e
   omega)
 rw [Nat.zero_add, List.nil_append] at own2
 go_ret
 exact ⟨_, rfl, own2, hb2⟩
theorem rowsAnew_o (st : Int) (a : Option Addr) (n c : Nat) (rs : List Int) (w : World) (h : IntAt w a n rs) (ha : a = none → c = 0) :
   Calls Tryz.prog 76 #[.agg #[.slice a n c, .int .i64 st]] w fun e w' => ∃ v, e = .returned (.agg #[v, .int .i64 st]) ∧ w'.ownsRow w.heap.size 3 1 v n (rs.map I) ∧ Below w.heap.size w w' := by
 obtain ⟨W, hW⟩ : ∃ W, ((w.alloc (.cells #[.slice a n c, .int .i64 st] 34)).alloc (.cells #[.slice none 0 0, .int .i64 0] 34)) = W := ⟨_, rfl⟩
 have hb0 : Below w.heap.size w W := by rw [← hW]; exact ((Below.refl _ w).alloc (Nat.le_refl _) _).alloc (by simp) _
 have hsz : w.heap.size + 1 < W.heap.size := by rw [← hW]; simp
 have X0 : Hid (Box W w.heap.size #[.slice a n c, .int .i64 st] 34) := by rw [← hW]; exact (box_of w _ _).alloc _
 have R0 : Hid (Box W (w.heap.size + 1) #[.slice none 0 0, .int .i64 0] 34) := by
   have := box_of (w.alloc (.cells #[.slice a n c, .int .i64 st] 34)) #[.slice none 0 0, .int .i64 0] 34
   rw [hW] at this
   show Box _ _ _ _
   simpa using this
 have HA : Hid (IntAt W a n rs) := h.below hb0 (Nat.le_refl _)
 have HB0 : Hid (Below w.heap.size w W) := hb0
 have HW : Hid (((w.alloc (.cells #[.slice a n c, .int .i64 st] 34)).alloc (.cells #[.slice none 0 0, .int .i64 0] 34)) = W) := hW
 have HAN : Hid (a = none → c = 0) := ha
 obtain ⟨k0, k1, _, _⟩ := X0.out.two
 have K0 : Hid (W.drew.cell? ⟨w.heap.size, 0, none⟩ = some (.slice a n c) ∧ W.drew.cell? ⟨w.heap.size, 1, none⟩ = some (.int .i64 st)) := ⟨k0, k1⟩
 clear h ha hW hb0 k0 k1
 go_enter Tryz.func76, Tryz.ntmps76
 go_wp2_with fail
 rw [HW.out]
 go_region_held3 (fun w' => w'.cell? ⟨w.heap.size, 0, none⟩ = some (.slice a n c) ∧ w'.cell? ⟨w.heap.size, 1, none⟩ = some (.int .i64 st))
   (first | (with_reducible exact K2.out) | (with_reducible exact K1.out) | (with_reducible exact K0.out) | go_keep)
   (first
   | (go_at_call 137
      refine (cloneI_o a n c rs _ (HA.out.below (Below.refl W.heap.size W).drew (Nat.le_refl _)) HAN.out).mono ?_
      rintro e w1 ⟨v, rfl, own1, hb1⟩
      have hb1' : Below W.heap.size W w1 := (Below.refl W.heap.size W).drew.trans hb1
      obtain ⟨va, vc, rfl, _⟩ := owns_slice own1
      have OW : Hid (w1.ownsRow W.heap.size 3 1 (.slice va n vc) n (rs.map I)) := own1
      have HB1 : Hid (Below W.heap.size W w1) := hb1'
      have R1 : Hid (Box w1 (w.heap.size + 1) #[.slice none 0 0, .int .i64 0] 34) := R0.out.below hb1' hsz
      obtain ⟨r0, r1, z0, z1⟩ := R1.out.two
      obtain ⟨k0, k1, _, _⟩ := (X0.out.below hb1' X0.out.lt).two
      have K1 : Hid (w1.cell? ⟨w.heap.size, 0, none⟩ = some (.slice a n c) ∧ w1.cell? ⟨w.heap.size, 1, none⟩ = some (.int .i64 st)) := ⟨k0, k1⟩
      have K2 : Hid (((w1.setCell ⟨w.heap.size + 1, 0, none⟩ (.slice va n vc)).setCell ⟨w.heap.size + 1, 1, none⟩ (.int .i64 st)).cell? ⟨w.heap.size, 0, none⟩ = some (.slice a n c) ∧ ((w1.setCell ⟨w.heap.size + 1, 0, none⟩ (.slice va n vc)).setCell ⟨w.heap.size + 1, 1, none⟩ (.int .i64 st)).cell? ⟨w.heap.size, 1, none⟩ = some (.int .i64 st)) := by
        have := (((X0.out.below hb1' X0.out.lt).set (q := ⟨w.heap.size + 1, 0, none⟩) (show w.heap.size ≠ w.heap.size + 1 by omega) (.slice va n vc)).set (q := ⟨w.heap.size + 1, 1, none⟩) (show w.heap.size ≠ w.heap.size + 1 by omega) (.int .i64 st)).two
        exact ⟨this.1, this.2.1⟩
      clear own1 hb1 hb1' k0 k1))
 obtain ⟨e0, e1, _, _⟩ := ((R1.out.put 0 (.slice va n vc)).put 1 (.int .i64 st)).two
 go_wp2
 (try simp only [Exit.inBlock, Exit.then])
 refine bodyPost_ret (by simp [results, Tryz.results76, go_sem, e0, e1]; try rfl) rfl ?_
 have hwb : (Value.slice va n vc).ownBlock ≠ some (w.heap.size + 1) := fun e => by have := (OW.out.lt _ e).1; omega
 exact ⟨.slice va n vc, rfl, own_setCell_far (own_setCell_far (own_weaken OW.out HB0.out.size) hwb _) hwb _, ((HB0.out.trans (HB1.out.mono HB0.out.size)).setCell (by simp) _).setCell (by simp) _⟩
end
section
open Go.RowKit Go.Extern.Stop Go.Stop Go.Extern
def isEntry : Array Value → Sem Value := Go.Extern.ReflectliteType.method fun t => do Go.Extern.Rtype.noPackHeld "Comparable" t; pure (.bool (← typeInfo t).comparable)
theorem is_typeOf (v : Value) (w : World) : (Extern.ReflectliteType.typeOf #[.iface 269 v]).run Tryz.prog w = .ok (.iface 183 (.agg #[.pointer (some ⟨5, 269, none⟩)])) w := by kernel_rfl
theorem is_comparable (w : World) : (isEntry #[.agg #[.pointer (some ⟨5, 269, none⟩)]]).run Tryz.prog w = .ok (.bool true) w := by kernel_rfl
theorem is_method (v : Value) (w : World) : (Go.method 405 183 v "Comparable").run Tryz.prog w = .ok (234, v) w := by kernel_rfl
theorem is_comp : (Tryz.prog.info? 269).map (·.comparable) = some true := by kernel_rfl
theorem is_size : (Tryz.prog.info? 293).map (·.size) = some 1 := by kernel_rfl
theorem is_no (v : Value) (xT : TypeId) (w : World) : (Instr.typeAssert (.iface 269 v) xT 185 true).run Tryz.prog w = .ok (.tuple #[.nilIface, .bool false]) w := run_typeAssert_lacksB Tryz.underlying185 (by kernel_rfl) (by kernel_rfl) v xT w
theorem is_noU (v : Value) (xT : TypeId) (w : World) : (Instr.typeAssert (.iface 269 v) xT 188 true).run Tryz.prog w = .ok (.tuple #[.nilIface, .bool false]) w := run_typeAssert_lacksB Tryz.underlying188 (by kernel_rfl) (by kernel_rfl) v xT w
theorem is_noUs (v : Value) (xT : TypeId) (w : World) : (Instr.typeAssert (.iface 269 v) xT 190 true).run Tryz.prog w = .ok (.tuple #[.nilIface, .bool false]) w := run_typeAssert_lacksB Tryz.underlying190 (by kernel_rfl) (by kernel_rfl) v xT w
theorem is_same (a : Addr) (w : World) :
   Calls Tryz.prog 40 #[.iface 269 (.pointer (some a)), .iface 269 (.pointer (some a))] w fun e w' => e = .returned (.bool true) ∧ w' = w := by
 obtain ⟨i, hi, hcmp⟩ := Option.map_eq_some_iff.1 is_comp
 obtain ⟨j, hj, hjs⟩ := Option.map_eq_some_iff.1 is_size
 have h8 := @run_callFunc_extern Tryz.prog 79 _ Extern.ReflectliteType.typeOf Tryz.func79 (by kernel_rfl) (by kernel_rfl) (by kernel_rfl) (by kernel_rfl)
 have h32 := @run_callFunc_extern Tryz.prog 234 _ isEntry Tryz.func234 (by kernel_rfl) (by kernel_rfl) (by kernel_rfl) (by kernel_rfl)
 have tT := is_typeOf
 have cT := is_comparable
 have mR := is_method
 have heq := run_eql_iface_ptr_same (P := Tryz.prog) w a Tryz.underlying72 Tryz.underlying269 hi hcmp hj
 go_enter Tryz.func40, Tryz.ntmps40
 go_wp2
 refine wp_loop_rounds 1 ?_
 rw [rounds_succ]
 go_wp2
 go_ret
 exact ⟨rfl, rfl⟩
theorem is_nil (b : Addr) (w : World) :
   Calls Tryz.prog 40 #[.nilIface, .iface 269 (.pointer (some b))] w fun e w' => e = .returned (.bool false) ∧ w' = w := by
 have hn := run_eql_iface_nil_left (P := Tryz.prog) w 269 (.pointer (some b)) Tryz.underlying72
 go_enter Tryz.func40, Tryz.ntmps40
 go_wp2
 go_ret
 exact ⟨rfl, rfl⟩
theorem is_other (a b : Addr) (ca cb : Array Value) (ta tb : TypeId) (w : World) (hne : a ≠ b) (ha : w.heap[a.block]? = some (.cells ca ta (0, 0))) (hb : w.heap[b.block]? = some (.cells cb tb (0, 0))) :
   Calls Tryz.prog 40 #[.iface 269 (.pointer (some a)), .iface 269 (.pointer (some b))] w fun e w' => e = .returned (.bool false) ∧ w' = w := by
 obtain ⟨i, hi, hcmp⟩ := Option.map_eq_some_iff.1 is_comp
 obtain ⟨j, hj, hjs⟩ := Option.map_eq_some_iff.1 is_size
 have h8 := @run_callFunc_extern Tryz.prog 79 _ Extern.ReflectliteType.typeOf Tryz.func79 (by kernel_rfl) (by kernel_rfl) (by kernel_rfl) (by kernel_rfl)
 have h32 := @run_callFunc_extern Tryz.prog 234 _ isEntry Tryz.func234 (by kernel_rfl) (by kernel_rfl) (by kernel_rfl) (by kernel_rfl)
 have tT := is_typeOf
 have cT := is_comparable
 have mR := is_method
 have nE := is_no
 have uE := is_noU
 have vE := is_noUs
 have heq := run_eql_iface_ptr_other (P := Tryz.prog) w Tryz.underlying72 Tryz.underlying269 hi hcmp hj (by rw [hjs]; decide) hne ha hb
 go_enter Tryz.func40, Tryz.ntmps40
 go_wp2
 refine wp_loop_rounds 1 ?_
 rw [rounds_succ]
 go_wp2
 go_ret
 exact ⟨rfl, rfl⟩
end
theorem wp_cut {P : Program} {code : Code} {K : Act → World → Prop} {a : Act} {w : World} {Q : Exit → Act → World → Prop} (hreg : code.wp P (Exit.then K (fun _ _ _ => False)) a w) (hrest : ∀ a' w', K a' w' → Q .normal a' w') : code.wp P Q a w := by
 refine Code.wp_mono ?_ hreg
 intro e a' w' h
 cases e with
 | normal => exact hrest a' w' h
 | _ => exact h.elim
end Go.Proofs.YtlkdjeneggfhgaaGreatDoor
