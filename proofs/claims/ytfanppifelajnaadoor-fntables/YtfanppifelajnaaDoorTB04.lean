/- Texts joined: BoxN, OwnsF, CloneI, SpecIn, SpecSt, Cur, Bent13, Str, Draw, PickI. -/
import Derived.Test.YtfanppifelajnaaDoorTB01
import Derived.Below
import Derived.WalkKit
import Derived.Test.YtfanppifelajnaaDoorTB03
import Derived.Lib.LazyBuf
import Derived.Handy
import Derived.Lib.SmallJoins
import Derived.Test.YtfanppifelajnaaDoorTB02
import Derived.Deep.Cut
import Derived.Maps.AppendAt
import Derived.Deep.RegionWith
import Derived.WalkSmall
import Derived.Test.YtfanppifelajnaaDoorRows
import Derived.ProofKit
set_option maxHeartbeats 4000000
set_option maxRecDepth 100000
namespace Go.Proofs.YtfanppifelajnaaDoor
section
open Go.RowKit
def Box (w : World) (b : Nat) (cs : Array Value) (T : TypeId) : Prop := w.heap[b]? = some (.cells cs T)
section
variable {w w' : World} {b : Nat} {cs : Array Value} {T : TypeId}
theorem Box.lt (h : Box w b cs T) : b < w.heap.size := (Array.getElem?_eq_some_iff.1 h).1
theorem Box.cell (h : Box w b cs T) (i : Nat) : w.cell? ⟨b, i, none⟩ = cs[i]? := by unfold Box at h; simp [World.cell?, h]
theorem Box.frozen (h : Box w b cs T) (i : Nat) : w.frozen? ⟨b, i, none⟩ = false := by unfold Box at h; simp [World.frozen?, h]
theorem Box.below (h : Box w b cs T) {B : Nat} (hb : Below B w w') (hB : b < B) : Box w' b cs T := by
 unfold Box at h ⊢
 rw [hb.block b hB]
 exact h
theorem Box.set (h : Box w b cs T) {q : Addr} (hq : b ≠ q.block) (v : Value) : Box (w.setCell q v) b cs T := by
 unfold Box at h ⊢
 rw [Below.heap_setCell _ _ _ _ hq]
 exact h
theorem Box.put (h : Box w b cs T) (i : Nat) (v : Value) : Box (w.setCell ⟨b, i, none⟩ v) b (cs.setIfInBounds i v) T := by
 unfold Box at h ⊢
 obtain ⟨hlt, h'⟩ := Array.getElem?_eq_some_iff.1 h
 show (w.heap.modify b _)[b]? = _
 rw [Array.getElem?_eq_getElem (by simpa using hlt), Array.getElem_modify_self, h']
 rfl
theorem Box.alloc (h : Box w b cs T) (o : Obj) : Box (w.alloc o) b cs T := h.below ((Below.refl w.heap.size w).alloc (Nat.le_refl _) o) h.lt
theorem box_of (w : World) (cs : Array Value) (T : TypeId) : Box (w.alloc (.cells cs T)) w.heap.size cs T := by
 show (w.heap.push _)[w.heap.size]? = _
 simp
theorem Box.drew (h : Box w b cs T) : Box w.drew b cs T := h
end
theorem size_setCell (w : World) (a : Addr) (v : Value) : (w.setCell a v).heap.size = w.heap.size := by simp [World.setCell]
theorem Box.two {w : World} {b : Nat} {T : TypeId} {x y : Value} (h : Box w b #[x, y] T) : w.cell? ⟨b, 0, none⟩ = some x ∧ w.cell? ⟨b, 1, none⟩ = some y ∧ w.frozen? ⟨b, 0, none⟩ = false ∧ w.frozen? ⟨b, 1, none⟩ = false :=
 ⟨h.cell 0, h.cell 1, h.frozen 0, h.frozen 1⟩
end
section
open Go.ChangeShapes Go.WideShapes Go.ChangeAt Go.RowKit
abbrev SL (g n : Nat) : Value := .slice (some ⟨g, 0, none⟩) n n
theorem owns_forms {w : World} {base : Nat} {e : TypeId} {size n : Nat} {v : Value} {xs : List Value} (h : w.ownsRow base e size v n xs) : (v = .slice none 0 0 ∧ n = 0) ∨ ∃ g cap, v = .slice (some ⟨g, 0, none⟩) n cap := by
 rcases h.2 with h2 | ⟨g, cap, cur, hv, _⟩
 · exact .inl h2
 · exact .inr ⟨g, cap, hv⟩
theorem owns_slice {w : World} {base : Nat} {e : TypeId} {size n : Nat} {v : Value} {xs : List Value} (h : w.ownsRow base e size v n xs) : ∃ a c, v = .slice a n c ∧ n ≤ c := by
 rcases h.2 with ⟨h2, h3⟩ | ⟨g, cap, cur, hv, _, _, hc, _⟩
 · exact ⟨none, 0, by rw [h2, h3], by omega⟩
 · exact ⟨_, cap, hv, hc⟩
def asc (k : Int) (n : Nat) : List Int := (List.range n).map fun (i : Nat) => k + (i : Int)
theorem asc_len (k : Int) (n : Nat) : (asc k n).length = n := by simp [asc]
def Asc (zs : List Int) (k : Int) (j : Nat) : Prop := ∀ i, i < j → zs[i]? = some (k + (i : Int))
theorem Asc.three {zs : List Int} {k q : Int} {j : Nat} (h : Asc zs k (j * 3)) (hl : j * 3 + 2 < zs.length) (hq : k + (j : Int) * 3 = q) : Asc (((zs.set (j * 3) q).set (j * 3 + 1) (q + 1)).set (j * 3 + 2) (q + 1 + 1)) k ((j + 1) * 3) := by
 intro i hi
 by_cases e2 : i = j * 3 + 2
 · subst e2
   rw [List.getElem?_set_self (by simp; omega)]
   congr 1; push_cast; omega
 rw [List.getElem?_set_ne (by omega)]
 by_cases e1 : i = j * 3 + 1
 · subst e1
   rw [List.getElem?_set_self (by simp; omega)]
   congr 1; push_cast; omega
 rw [List.getElem?_set_ne (by omega)]
 by_cases e0 : i = j * 3
 · subst e0
   rw [List.getElem?_set_self (by omega)]
   congr 1; push_cast; omega
 rw [List.getElem?_set_ne (by omega)]
 exact h i (by omega)
theorem Asc.one {zs : List Int} {k q : Int} {j : Nat} (h : Asc zs k j) (hl : j < zs.length) (hq : k + (j : Int) = q) : Asc (zs.set j q) k (j + 1) := by
 intro i hi
 by_cases e0 : i = j
 · subst e0
   rw [List.getElem?_set_self (by omega), hq]
 rw [List.getElem?_set_ne (by omega)]
 exact h i (by omega)
theorem Asc.all {zs : List Int} {k : Int} {n : Nat} (h : Asc zs k n) (hl : zs.length = n) : zs = asc k n := by
 refine List.ext_getElem? fun i => ?_
 rcases Nat.lt_or_ge i n with hi | hi
 · rw [h i hi]; simp [asc, hi]
 · rw [List.getElem?_eq_none (by omega), List.getElem?_eq_none (by rw [asc_len]; omega)]
structure OnlyV (base : Nat) (v : Value) (w w' : World) : Prop where
 bel : Below base w w'
 size : w'.heap.size = w.heap.size
 oth : ∀ k, v.ownBlock ≠ some k → w'.heap[k]? = w.heap[k]?
theorem OnlyV.refl (base : Nat) (v : Value) (w : World) : OnlyV base v w w := ⟨Below.refl _ _, rfl, fun _ _ => rfl⟩
theorem OnlyV.set {base g n cap : Nat} {w w' : World} (h : OnlyV base (.slice (some ⟨g, 0, none⟩) n cap) w w') (hb : base ≤ g) (j : Nat) (u : Value) : OnlyV base (.slice (some ⟨g, 0, none⟩) n cap) w (w'.setCell ⟨g, j, none⟩ u) :=
 ⟨h.bel.setCell hb _, by rw [size_setCell]; exact h.size, fun k hk => (Below.heap_setCell _ _ _ _ (fun e => hk (by simp [Value.ownBlock, e]))).trans (h.oth k hk)⟩
end
section
open Go.ChangeShapes Go.WideShapes Go.ChangeAt Go.RowKit Go.Joins
theorem own_emptyT {w : World} {base : Nat} {T : TypeId} {size : Nat} (hb : base ≤ w.heap.size) : (w.alloc (.cells #[] T)).ownsRow base T size (.slice (some ⟨w.heap.size, 0, none⟩) 0 0) 0 [] :=
 ⟨by simp, .inr ⟨w.heap.size, 0, #[], rfl, hb, (by show (w.heap.push _)[w.heap.size]? = _; simp), Nat.le_refl _, by unfold maxLen; omega, by simp, by simp⟩⟩
theorem eql_nil {P : Program} (w : World) {t e : TypeId} {a : Option Addr} {l c : Nat} (h : P.underlying t = some (.slice e)) : (binOp .eql t (.slice a l c) (.slice none 0 0)).run P w = .ok (.bool a.isNone) w := by
 simp [binOp, run_equal_slice_nil w t e a l c h]
theorem cell_alloc {w : World} {q : Addr} {u : Value} {o : Obj} (h : w.cell? q = some u) : (w.alloc o).cell? q = some u := by
 rw [World.cell?_of_block (Below.heap_alloc _ _ _ (World.block_lt_of_cell? w _ h))]
 exact h
theorem int_cell {w : World} {ad : Addr} {n : Nat} {es : List Int} {o : Obj} (h : IntAt w (some ad) n es) {j : Nat} {v : Value} (hj : (es.map I)[j]? = some v) : (w.alloc o).cell? (ad.add j) = some v := by
 refine cell_alloc ?_
 rw [List.getElem?_map] at hj
 have hl : j < es.length := by
   rcases Nat.lt_or_ge j es.length with h1 | h1
   · exact h1
   · rw [List.getElem?_eq_none h1] at hj; cases hj
 rcases h.2.2 with h0 | ⟨b, o, he, g⟩
 · have := h.1; omega
 · cases he
   have h1 := g j (by have := h.1; omega)
   have e : (⟨b, o, none⟩ : Addr).add j = ⟨b, o + j, none⟩ := by simp [Addr.add]
   rw [e, h1]
   rw [List.getElem?_eq_getElem hl] at hj
   simpa [List.getD, hl] using hj
theorem cloneI_o (a : Option Addr) (n c : Nat) (es : List Int) (w : World) (h : IntAt w a n es) (ha : a = none → c = 0) :
   Calls Tryd.prog 50 #[.slice a n c] w fun e w' => ∃ v, e = .returned v ∧ w'.ownsRow w.heap.size 3 1 v n (es.map I) ∧ Below w.heap.size w w' := by
 obtain ⟨i0, hi, hz0, hz1, hz2⟩ := info_parts infoInt
 rcases a with _ | ad
 · obtain rfl : c = 0 := ha rfl
   obtain rfl : n = 0 := by
     rcases h.2.2 with h0 | ⟨_, _, he, _⟩
     · exact h0
     · cases he
   have HV : Hid ((es.map I) = []) := by
     show _ = []
     rw [show es = [] from List.length_eq_zero_iff.1 (by have := h.1; simpa using this)]; rfl
   have hE : ∀ w : World, (binOp .eql 24 (.slice none 0 0) (.slice none 0 0)).run Tryd.prog w = .ok (.bool true) w := fun w => eql_nil w Tryd.underlying24
   clear h ha
   go_enter Tryd.func50, Tryd.ntmps50
   go_wp2
   go_ret
   exact ⟨_, rfl, by rw [HV.out]; exact World.ownsRow_nil _ _ _ _, Below.refl _ _⟩
 have hn := h.2.1
 have HS : Hid (((es.map I)).length = n * 1 ∧ (∀ j u, ((es.map I))[j]? = some u → (w.alloc (.cells #[] 3)).cell? (ad.add j) = some u) ∧ ∀ u ∈ (es.map I), u.oneCell' = true) := by
   exact ⟨by rw [List.length_map, h.1]; omega, fun j u hj => int_cell h hj, news_one⟩
 have hE : ∀ w : World, (binOp .eql 24 (.slice (some ad) n c) (.slice none 0 0)).run Tryd.prog w = .ok (.bool false) w := fun w => eql_nil w Tryd.underlying24
 clear h ha
 go_enter Tryd.func50, Tryd.ntmps50
 go_wp2_with
   (at_builtin
    refine wpList_append_own _ rfl _ _ 24 rfl w.heap.size 3 i0 (.int .i64 0) 1 8 Tryd.underlying24 hi hz0 hz1 hz2 rfl (by decide) (.slice (some ⟨w.heap.size, 0, none⟩) 0 0) 0 [] rfl (own_emptyT (Nat.le_refl _)) ad n c ((es.map I)) rfl HS.out.1 HS.out.2.1 HS.out.2.2 (by unfold maxLen; omega) (by omega) (by simp) ?_
    intro v' w2 own2 grow2 _)
 have hb2 : Below w.heap.size w w2 := ((Below.refl _ w).alloc (Nat.le_refl _) _).grown grow2 (by simp) (fun k e => by
   have h1 : w.heap.size = k := by simpa [Value.ownBlock] using e
   omega)
 rw [Nat.zero_add, List.nil_append] at own2
 go_ret
 exact ⟨_, rfl, own2, hb2⟩
def RowsSay (e : Ending) (w w' : World) (ws : List Int) : Prop := ∃ a c, e = .returned (.agg #[.slice a (inX ws).length c, .int .i64 (inS ws)]) ∧ (inX ws).length ≤ c ∧ w'.ownsRow w.heap.size 3 1 (.slice a (inX ws).length c) (inX ws).length ((inX ws).map I)
theorem RowsSay.at {e : Ending} {w w' : World} {ws : List Int} (h : RowsSay e w w' ws) : ∃ a c, e = .returned (.agg #[.slice a (inX ws).length c, .int .i64 (inS ws)]) ∧ (inX ws).length ≤ c ∧ IntAt w' a (inX ws).length (inX ws) := by
 obtain ⟨a, c, h1, h2, h3⟩ := h
 obtain ⟨a', c', he, hi⟩ := own_at h3 (by have := inX_len (ws := ws); omega)
 cases he
 exact ⟨a, c, h1, h2, hi⟩
theorem rowsSay_of {e : Ending} {w w' : World} {ws : List Int} {a : Option Addr} {n c : Nat} {st : Int} {xs : List Int} (hx : inX ws = xs) (hs : inS ws = st) (hn : n = xs.length) (he : e = .returned (.agg #[.slice a n c, .int .i64 st])) (ho : w'.ownsRow w.heap.size 3 1 (.slice a n c) n (xs.map I)) : RowsSay e w w' ws := by
 subst hn hx hs
 obtain ⟨a', c', h1, h2⟩ := owns_slice ho
 cases h1
 exact ⟨a, c, he, h2, ho⟩
theorem own_empty_g {w : World} {base g : Nat} (hg : w.heap.size = g) (hb : base ≤ g) : (w.alloc (.cells #[] 3)).ownsRow base 3 1 (.slice (some ⟨g, 0, none⟩) 0 0) 0 [] := by
 subst hg
 exact own_empty hb
theorem specRowsIn_any (a : Option Addr) (n c : Nat) (ws : List Int) (w : World) (hA : IntAt w a n ws) (hc : n ≤ c) :
   Calls Tryd.prog 16 #[.slice a n c] w fun e w' => RowsSay e w w' ws ∧ Below w.heap.size w w' := by
 obtain ⟨i0, hi, hz0, hz1, hz2⟩ := info_parts infoInt
 by_cases hn : n = 20
 case neg =>
   have hl : ¬ ws.length = 20 := by rw [hA.1]; exact hn
   have HX : Hid (inX ws = [] ∧ inS ws = 0) := ⟨inX_no hl, inS_no hl⟩
   have hd : ((n : Int) != 20) = true := by simp; omega
   have HB : Hid (Below w.heap.size w (w.alloc (.cells #[.slice none 0 0, .int .i64 0] 32))) := (Below.refl _ w).alloc (Nat.le_refl _) _
   have hnn := hA.2.1
   clear hA hl hn
   go_enter Tryd.func16, Tryd.ntmps16
   go_wp2
   (try simp only [Exit.inBlock, Exit.then])
   refine bodyPost_ret (by simp [results, Tryd.results16, go_sem]; try rfl) rfl ?_
   exact ⟨rowsSay_of HX.out.1 HX.out.2 rfl rfl (World.ownsRow_nil _ _ _ _), by first | exact HB.out | exact (HB.out.setCell (by simp) _).setCell (by simp) _⟩
 subst hn
 have hl : ws.length = 20 := hA.1
 obtain ⟨hl0, hn0, h0 | ⟨p, o, rfl, hcell⟩⟩ := hA
 · omega
 have HX : Hid (inX ws = ws.take 4 ∧ inS ws = ws.getD 13 0) := ⟨inX_yes hl, inS_yes hl⟩
 obtain ⟨st, hst⟩ : ∃ st, ws.getD 13 0 = st := ⟨_, rfl⟩
 rw [hst] at HX
 have h4 : ∀ i, i < 4 → w.cell? ⟨p, o + i, none⟩ = some (I ((ws.take 4).getD i 0)) := fun i hi => by
   rw [hcell i (by omega)]
   have : (ws.take 4).getD i 0 = ws.getD i 0 := by simp [List.getD, hi]
   rw [this]
 have H4 : Hid (IntAt w (some ⟨p, o, none⟩) 4 (ws.take 4)) := ⟨by simp; omega, by omega, .inr ⟨p, o, rfl, h4⟩⟩
 have c13 := hcell 13 (by omega)
 rw [hst] at c13
 obtain ⟨o13, ho13⟩ : ∃ o13, o + 13 = o13 := ⟨_, rfl⟩
 rw [ho13] at c13
 have plt : p < w.heap.size := World.block_lt_of_cell? w _ c13
 have hl4 : Hid ((ws.take 4).length = 4) := H4.out.1
 have H20 : Hid (20 ≤ c) := hc
 obtain ⟨m, hm⟩ : ∃ m, 4 = m := ⟨_, rfl⟩
 have HM : Hid (4 = m) := hm
 have hsl : ∀ w : World, (Instr.slice 24 (.slice (some ⟨p, o, none⟩) 20 c) none (some (.int .i64 4)) none).run Tryd.prog w = .ok (.slice (some ⟨p, o, none⟩) m c) w := fun w => by
   rw [run_slice_h w 24 (some ⟨p, o, none⟩) 20 c Tryd.underlying24 .i64 4 (by omega) (by omega), show Tryd.prog.elem 24 = 3 from rfl, Tryd.sizeOf3 w, ← hm]
   simp [Result.andThen, sliced, Addr.add]
 obtain ⟨xs, hxs⟩ : ∃ xs, ws.take 4 = xs := ⟨_, rfl⟩
 rw [hxs] at H4 HX
 rw [hm] at H4
 have hl4 : Hid (xs.length = m) := H4.out.1
 have hm2 : m ≤ 20 := by omega
 clear hcell hl hl0 h4 hst hc hm hxs
 go_enter Tryd.func16, Tryd.ntmps16
 have HB0 : Hid (Below w.heap.size w (w.alloc (.cells #[.slice none 0 0, .int .i64 0] 32))) := (Below.refl _ w).alloc (Nat.le_refl _) _
 have HG1 : Hid _ := (H4.out.below HB0.out (Nat.le_refl _)).cells
 go_wp2_with
   (at_builtin
    refine wpList_append_own _ rfl _ _ 24 rfl (w.heap.size + 1) 3 i0 (.int .i64 0) 1 8 Tryd.underlying24 hi hz0 hz1 hz2 rfl (by decide) (.slice (some ⟨w.heap.size + 1, 0, none⟩) 0 0) 0 [] rfl (own_empty_g (by simp) (by omega)) ⟨p, o, none⟩ m c (xs.map I) rfl (news_len hl4.out) (news_at hl4.out HG1.out) news_one (by unfold maxLen; omega) (by omega) (by rw [World.size_alloc, World.size_alloc]; omega) ?_
    intro v' w2 own2 grow2 _
    rw [Nat.zero_add, List.nil_append] at own2
    obtain ⟨va, vc, rfl, _⟩ := owns_slice own2
    have HO : Hid (w2.ownsRow (w.heap.size + 1) 3 1 (.slice va m vc) m (xs.map I)) := own2
    have hb2 : Below (w.heap.size + 1) (w.alloc (.cells #[.slice none 0 0, .int .i64 0] 32)) w2 := ((Below.refl _ _).alloc (by simp) _).grown grow2 (by simp) (fun k e => by
      have h1 : w.heap.size + 1 = k := by simpa [Value.ownBlock] using e
      omega)
    have R2 : Hid (Box w2 w.heap.size #[.slice none 0 0, .int .i64 0] 32) := (box_of w _ _).below hb2 (by omega)
    have HB2 : Hid (Below w.heap.size w w2) := HB0.out.trans (hb2.mono (by omega))
    have c13' : w2.cell? ⟨p, o13, none⟩ = some (I st) := (HB2.out.cell plt).trans c13
    have hsz2 : w.heap.size < w2.heap.size := R2.out.lt
    clear own2 grow2 hb2)
 refine (specStateAt_any _).mono ?_
 rintro e w3 ⟨rfl, hw3⟩
 rw [hw3]
 have HO13 : Hid (o + 13 = o13) := ho13
 obtain ⟨r0, r1, z0, z1⟩ := R2.out.two
 go_wp2
 obtain ⟨e0, e1, _, _⟩ := ((R2.out.put 0 (.slice va m vc)).put 1 (.int .i64 st)).two
 (try simp only [Exit.inBlock, Exit.then])
 refine bodyPost_ret (by simp [results, Tryd.results16, go_sem, e0, e1]; try rfl) rfl ?_
 have hwb : (Value.slice va m vc).ownBlock ≠ some w.heap.size := fun e => by have := (HO.out.lt _ e).1; omega
 exact ⟨rowsSay_of HX.out.1 HX.out.2 hl4.out.symm rfl (own_setCell_far (own_setCell_far (own_weaken HO.out (by omega)) hwb _) hwb _), (HB2.out.setCell (by simp) _).setCell (by simp) _⟩
def StraySays (e : Ending) (w w' : World) (S : List Int) : Prop := ∃ v, e = .returned v ∧ w'.ownsRow w.heap.size 3 1 v S.length (S.map I)
theorem strayL_same {ws L : List Int} {k : Nat} (h : ws.getD k 0 = L.getD k 0) : strayL ws L (k + 1) = strayL ws L k := by
 rw [strayL, if_pos h]
theorem strayL_more {ws L : List Int} {k : Nat} (h : ¬ ws.getD k 0 = L.getD k 0) : strayL ws L (k + 1) = strayL ws L k ++ [(k : Int)] := by
 rw [strayL, if_neg h]
theorem app_step {w wr w1 : World} {base : Nat} {v v1 : Value} {S : List Int} {x : Int} {o : Obj} (hB : base ≤ wr.heap.size) (hown : wr.ownsRow base 3 1 v S.length (S.map I)) (hb : Below base w wr)
   (h1 : w1.ownsRow base 3 1 v1 (S.length + 1) (S.map I ++ [I x])) (hg : (wr.alloc o).grownBy w1 v.ownBlock) :
   w1.ownsRow base 3 1 v1 (S ++ [x]).length ((S ++ [x]).map I) ∧ Below base w w1 :=
 ⟨by simpa using h1, (hb.alloc hB _).grown hg (by simp; omega) fun k e => (hown.lt k e).1⟩
theorem tells_len {ws L : List Int} (h : TellsL (inX ws) (inS ws) L) : L.length = 0 ∨ (L.length = 20 ∧ ws.length = 20) := by
 rcases h with ⟨h, rfl⟩ | ⟨_, rfl⟩
 · exact .inr ⟨rfl, ok_twenty h⟩
 · exact .inl rfl
def ApartL (o : Value) (la : Option Addr) (ln : Nat) : Prop := 0 < ln → ∀ p q, la = some ⟨p, q, none⟩ → o.ownBlock ≠ some p
theorem apart_new {w : World} {g ln : Nat} {la : Option Addr} {L : List Int} {base : Nat} (h : IntAt w la ln L) (ho : w.ownsRow base 3 1 (.slice (some ⟨g, 0, none⟩) 0 0) 0 []) : ApartL (.slice (some ⟨g, 0, none⟩) 0 0) la ln := by
 intro h0 p q he e
 have e' : g = p := Option.some.inj e
 subst e'
 subst he
 rcases h.2.2 with h1 | ⟨p', q', he, hc⟩
 · omega
 cases he
 have hcell := hc 0 h0
 rcases ho.2 with ⟨h2, _⟩ | ⟨g', cap, cur, hv, _, hh, _, _, hcur, _⟩
 · cases h2
 · cases hv
   have hz : cur.size = 0 := by simpa using hcur
   simp [World.cell?, hh, hz] at hcell
theorem apart_step {w w' : World} {p q ln : Nat} {L : List Int} {v v' : Value} {o : Obj} (h : IntAt w (some ⟨p, q, none⟩) ln L) (ha : ApartL v (some ⟨p, q, none⟩) ln) (h0 : 0 < ln) (hg : (w.alloc o).grownBy w' v.ownBlock) (hv : v'.ownBlock = v.ownBlock ∨ v'.ownBlock = some (w.heap.size + 1)) :
   IntAt w' (some ⟨p, q, none⟩) ln L ∧ ApartL v' (some ⟨p, q, none⟩) ln := by
 have hp : p < w.heap.size := by
   rcases h.2.2 with h1 | ⟨p', q', he, hc⟩
   · omega
   · cases he
     exact World.block_lt_of_cell? w _ (hc 0 h0)
 have hne := ha h0 p q rfl
 refine ⟨⟨h.1, h.2.1, ?_⟩, ?_⟩
 · rcases h.2.2 with h1 | ⟨p', q', he, hc⟩
   · omega
   · cases he
     refine .inr ⟨p, q, rfl, fun i hi => ?_⟩
     rw [World.cell?_of_block (w := w.alloc o) (hg.block p (by simp; omega) (fun e => hne e.symm)), World.cell?_alloc_past _ _ _ hp]
     exact hc i hi
 · intro _ p' q' he
   cases he
   rcases hv with hv | hv
   · rw [hv]; exact hne
   · rw [hv]
     intro e
     have e1 := Option.some.inj e
     omega
theorem specStray_any (a : Option Addr) (n c : Nat) (ws L : List Int) (w : World) (hA : IntAt w a n ws) (hc : n ≤ c) (hL : TellsL (inX ws) (inS ws) L) :
   Calls Tryd.prog 18 #[.slice a n c] w fun e w' => StraySays e w w' (strayL ws L L.length) ∧ Below w.heap.size w w' := by
 obtain ⟨i0, hi, hz0, hz1, hz2⟩ := info_parts infoInt
 have HL : Hid (TellsL (inX ws) (inS ws) L) := hL
 have hn20 : Hid (L.length = 0 ∨ (L.length = 20 ∧ ws.length = 20)) := tells_len hL
 have HA : Hid (IntAt w a n ws) := hA
 have HC : Hid (n ≤ c) := hc
 have hnn := hA.2.1
 obtain ⟨ln, hlen⟩ : ∃ ln, L.length = ln := ⟨_, rfl⟩
 rw [hlen] at hn20 ⊢
 have HLN : Hid (L.length = ln) := hlen
 obtain ⟨W, hW⟩ : ∃ W, w.alloc (.cells #[] 3) = W := ⟨_, rfl⟩
 have HB0 : Hid (Below w.heap.size w W) := by rw [← hW]; exact (Below.refl _ w).alloc (Nat.le_refl _) _
 have HO0 : Hid (W.ownsRow w.heap.size 3 1 (.slice (some ⟨w.heap.size, 0, none⟩) 0 0) 0 []) := by rw [← hW]; exact own_empty (Nat.le_refl _)
 have HW : Hid (w.alloc (.cells #[] 3) = W) := hW
 clear hA hc hL hW hlen
 go_enter Tryd.func18, Tryd.ntmps18
 go_wp2_with (fail)
 rw [HW.out]
 refine (specRowsIn_any a n c ws W (HA.out.below HB0.out (Nat.le_refl _)) HC.out).mono ?_
 rintro e w1 ⟨hs1, hb1⟩
 obtain ⟨ra, rc, rfl, hrc, RA1⟩ := hs1.at
 have HR1 : Hid (IntAt w1 ra (inX ws).length (inX ws)) := RA1
 clear hs1 RA1
 go_wp2_with (fail)
 refine (specWordsT ra (inX ws).length rc (inS ws) (inX ws) L _ HR1.out HL.out).mono ?_
 rintro e w2 ⟨⟨la, lm, lc, rfl, LA2⟩, hb2⟩
 obtain rfl : ln = lm := HLN.out.symm.trans LA2.1
 have hb02 : Below W.heap.size W w2 := hb1.trans (hb2.mono hb1.size)
 have HB2 : Hid (Below w.heap.size w w2) := HB0.out.trans (hb02.mono HB0.out.size)
 have HO2 : Hid (w2.ownsRow w.heap.size 3 1 (.slice (some ⟨w.heap.size, 0, none⟩) 0 0) 0 []) := owns_below HO0.out hb02 (Nat.le_refl _)
 have HL2 : Hid (IntAt w2 la ln L) := LA2
 have HAP : Hid (ApartL (.slice (some ⟨w.heap.size, 0, none⟩) 0 0) la ln) := apart_new LA2 HO2.out
 have hwl : Hid (ws.length = n) := HA.out.1
 have hs2 : w.heap.size ≤ w2.heap.size := HB2.out.size
 have HWS : Hid (IntAt w2 a n ws) := HA.out.below HB2.out (Nat.le_refl _)
 have hln : ln ≤ 20 := by rcases hn20.out with h | h <;> omega
 have hle : ln ≤ n := by have := hwl.out; rcases hn20.out with h | h <;> omega
 clear hb1 hb2 hb02 LA2 HR1
 go_wp2
 go_loopw [3, 5] (fun o i wr => ∃ k : Nat, k ≤ ln ∧ i = .int .i64 (k : Int) ∧ wr.ownsRow w.heap.size 3 1 o (strayL ws L k).length ((strayL ws L k).map I) ∧ Below w.heap.size w wr ∧ IntAt wr la ln L ∧ ApartL o la ln) (fun _ i _ => ln - (intOf i).toNat)
 case atStart => exact ⟨0, Nat.zero_le _, rfl, HO2.out, HB2.out, HL2.out, HAP.out⟩
 case round =>
   obtain ⟨k, hk, rfl, ho, hb, hl, hap⟩ := hrel
   have HO : Hid (wr.ownsRow w.heap.size 3 1 u3 (strayL ws L k).length ((strayL ws L k).map I)) := ho
   have HB : Hid (Below w.heap.size w wr) := hb
   have HLL : Hid (IntAt wr la ln L) := hl
   have HAP : Hid (ApartL u3 la ln) := hap
   have hsr : w.heap.size ≤ wr.heap.size := hb.size
   have hsl : (strayL ws L k).length ≤ 20 := by have := strayL_len ws L k; omega
   clear ho hb hl hap
   by_cases hlt : k < ln
   · rcases (HA.out.below HB.out (Nat.le_refl _)).2.2 with h0 | ⟨p1, o1, rfl, g1⟩
     · omega
     rcases HLL.out.2.2 with h0 | ⟨p2, o2, rfl, g2⟩
     · omega
     obtain ⟨x, hx⟩ : ∃ x, ws.getD k 0 = x := ⟨_, rfl⟩
     obtain ⟨y, hy⟩ : ∃ y, L.getD k 0 = y := ⟨_, rfl⟩
     have e1 := g1 k (by omega)
     have e2 := g2 k hlt
     rw [hx] at e1
     rw [hy] at e2
     have HX : Hid (ws.getD k 0 = x) := hx
     have HY : Hid (L.getD k 0 = y) := hy
     have hlt2 : k < n := by omega
     clear g1 g2 hx hy
     by_cases hxy : x = y
     · have hd : (x != y) = false := by simpa using hxy
       have HS : Hid (strayL ws L (k + 1) = strayL ws L k) := strayL_same (by rw [HX.out, HY.out]; exact hxy)
       clear hxy
       go_wp2
       go_region
       go_wp2
       exact ⟨⟨k + 1, by omega, by go_num, by rw [HS.out]; exact owns_below HO.out (Below.refl _ wr).drew (Nat.le_refl _), HB.out.drew, HLL.out.below (Below.refl _ wr).drew (Nat.le_refl _), HAP.out⟩, by simp [intOf]; omega⟩
     · have hd : (x != y) = true := by simpa using hxy
       have HS : Hid (strayL ws L (k + 1) = strayL ws L k ++ [(k : Int)]) := strayL_more (by rw [HX.out, HY.out]; exact hxy)
       clear hxy
       go_wp2
       go_region
       have HOD : Hid (wr.drew.ownsRow w.heap.size 3 1 u3 (strayL ws L k).length ((strayL ws L k).map I)) := owns_below HO.out (Below.refl _ wr).drew (Nat.le_refl _)
       have HBD : Hid (Below w.heap.size w wr.drew) := HB.out.drew
       have HLD : Hid (IntAt wr.drew (some ⟨p2, o2, none⟩) ln L) := HLL.out.below (Below.refl _ wr).drew (Nat.le_refl _)
       obtain ⟨WD, hWD⟩ : ∃ WD, wr.drew = WD := ⟨_, rfl⟩
       rw [hWD] at HOD HBD HLD ⊢
       have hsd : w.heap.size ≤ WD.heap.size := by rw [← hWD]; exact hsr
       clear hWD e1 e2
       go_wp2_with (at_builtin; refine wpList_append_own_at _ rfl _ _ 24 rfl w.heap.size 3 i0 (.int .i64 0) 1 8 Tryd.underlying24 hi hz0 hz1 hz2 rfl (by decide) _ _ _ rfl (HOD.out.alloc _) ⟨WD.heap.size, 0, none⟩ 1 1 [I (k : Int)] rfl rfl ?c1 ?c2 ?c3 ?c4 ?c5 ?_)
       case c1 => exact cell_one_new _ _ _
       case c2 => intro u hu; simp at hu; subst hu; rfl
       case c3 => unfold maxLen; omega
       case c4 => omega
       case c5 => simp; omega
       · intro v1 w4 hown1 hgrow _ hwh
         have R := app_step hsd HOD.out HBD.out hown1 hgrow
         have HL4 : Hid (IntAt w4 (some ⟨p2, o2, none⟩) ln L ∧ ApartL v1 (some ⟨p2, o2, none⟩) ln) := apart_step HLD.out HAP.out (by omega) hgrow hwh
         clear hown1 hgrow
         go_wp2
         exact ⟨⟨k + 1, by omega, by go_num, by rw [HS.out]; exact R.1, R.2, HL4.out.1, HL4.out.2⟩, by simp [intOf]; omega⟩
   · obtain rfl : k = ln := by omega
     go_wp2
     go_ret
     exact ⟨⟨_, rfl, HO.out⟩, HB.out⟩
end
section
open Go.RowKit
theorem and255 (x : Int) : bits .and .i64 x 255 = x % 256 := by
 have e : ((BitVec.ofInt 64 x) &&& (BitVec.ofInt 64 255)).toNat = (x % 256).toNat := by
   rw [BitVec.toNat_and, BitVec.toNat_ofInt, BitVec.toNat_ofInt, show ((255 : Int) % ((2 ^ 64 : Nat) : Int)).toNat = 2 ^ 8 - 1 by decide, Nat.and_two_pow_sub_one_eq_mod]
   omega
 show IntKind.i64.wrap (((BitVec.ofInt 64 x) &&& (BitVec.ofInt 64 255)).toNat : Int) = _
 rw [e, IntKind.wrap_i64]
 omega
structure Only (p : Nat) (w w' : World) : Prop where
 os : w'.os = w.os
 tape : w'.tape = w.tape
 output : w'.output = w.output
 size : w'.heap.size = w.heap.size
 block : ∀ k, k ≠ p → w'.heap[k]? = w.heap[k]?
theorem Only.refl (p : Nat) (w : World) : Only p w w := ⟨rfl, rfl, rfl, rfl, fun _ _ => rfl⟩
theorem Only.trans {p : Nat} {a b c : World} (h : Only p a b) (k : Only p b c) : Only p a c :=
 ⟨k.os.trans h.os, k.tape.trans h.tape, k.output.trans h.output, k.size.trans h.size, fun i hi => (k.block i hi).trans (h.block i hi)⟩
theorem Only.drew {p : Nat} {a b : World} (h : Only p a b) : Only p a b.drew := ⟨h.os, h.tape, h.output, h.size, h.block⟩
theorem Only.setCell {p : Nat} {a b : World} (h : Only p a b) (o : Nat) (v : Value) : Only p a (b.setCell ⟨p, o, none⟩ v) :=
 h.trans ⟨rfl, rfl, rfl, by simp [World.setCell], fun k hk => Below.heap_setCell _ _ _ _ hk⟩
theorem Only.below {p : Nat} {w w' : World} (h : Only p w w') {B : Nat} (hB : B ≤ p) : Below B w w' :=
 ⟨h.os, h.tape, h.output, Nat.le_of_eq h.size.symm, fun k hk => h.block k (by omega)⟩
theorem Only.owns {p : Nat} {w w' : World} (h : Only p w w') {base : Nat} {e : TypeId} {size : Nat} {v : Value} {n : Nat} {xs : List Value} (ho : w.ownsRow base e size v n xs) (hp : p < base) : w'.ownsRow base e size v n xs := by
 obtain ⟨h1, h2 | ⟨g, cap, cur, h3, h4, h5, h6⟩⟩ := ho
 · exact ⟨h1, .inl h2⟩
 · exact ⟨h1, .inr ⟨g, cap, cur, h3, h4, by rw [h.block g (by omega)]; exact h5, h6⟩⟩
def BytesAt (w : World) (p : Nat) (a : Option Addr) (n : Nat) : Prop :=
 n = 0 ∨ ∃ b o, a = some ⟨b, o, none⟩ ∧ b < p ∧ ∀ j, j < n → ∃ z : Nat, z ≤ 255 ∧ w.cell? ⟨b, o + j, none⟩ = some (.int .u8 (z : Int))
theorem BytesAt.keep {w w' : World} {p : Nat} {a : Option Addr} {n : Nat} (h : BytesAt w p a n) (hb : ∀ k, k < p → w'.heap[k]? = w.heap[k]?) : BytesAt w' p a n := by
 rcases h with h | ⟨b, o, h1, h2, h3⟩
 · exact .inl h
 · refine .inr ⟨b, o, h1, h2, fun j hj => ?_⟩
   obtain ⟨z, h4, h5⟩ := h3 j hj
   exact ⟨z, h4, by rw [World.cell?_of_block (w := w) (hb b h2)]; exact h5⟩
theorem BytesAt.mono {w : World} {p q : Nat} {a : Option Addr} {n : Nat} (h : BytesAt w p a n) (hq : p ≤ q) : BytesAt w q a n := by
 rcases h with h | ⟨b, o, h1, h2, h3⟩
 · exact .inl h
 · exact .inr ⟨b, o, h1, by omega, h3⟩
def CurIs (T : TypeId) (w : World) (p : Nat) (a : Option Addr) (n c : Nat) (i h : Int) : Prop :=
 w.heap[p]? = some (.cells #[.slice a n c, .int .i64 i, .int .i64 h] T (0, 0))
def Cur (T : TypeId) (w : World) (p : Nat) (a : Option Addr) (n c : Nat) : Prop :=
 (∃ i h : Int, CurIs T w p a n c i h ∧ 0 ≤ i ∧ i ≤ n) ∧ BytesAt w p a n ∧ n ≤ 1048576
theorem Cur.keep {T : TypeId} {w w' : World} {p : Nat} {a : Option Addr} {n c : Nat} (h : Cur T w p a n c) (hb : ∀ k, k ≤ p → w'.heap[k]? = w.heap[k]?) : Cur T w' p a n c := by
 obtain ⟨⟨i, x, h1, h2⟩, h3, h4⟩ := h
 exact ⟨⟨i, x, by unfold CurIs; rw [hb p (Nat.le_refl _)]; exact h1, h2⟩, h3.keep (fun k hk => hb k (by omega)), h4⟩
theorem Cur.lt {T : TypeId} {w : World} {p : Nat} {a : Option Addr} {n c : Nat} (h : Cur T w p a n c) : p < w.heap.size := by
 obtain ⟨⟨i, x, h1, h2⟩, h3, h4⟩ := h
 exact (Array.getElem?_eq_some_iff.1 h1).1
theorem CurIs.cell {T : TypeId} {w : World} {p : Nat} {a : Option Addr} {n c : Nat} {i x : Int} (h : CurIs T w p a n c i x) :
   w.cell? ⟨p, 0, none⟩ = some (.slice a n c) ∧ w.cell? ⟨p, 1, none⟩ = some (.int .i64 i) ∧ w.cell? ⟨p, 2, none⟩ = some (.int .i64 x) := by
 unfold CurIs at h
 simp [World.cell?, h]
theorem CurIs.frozen {T : TypeId} {w : World} {p : Nat} {a : Option Addr} {n c : Nat} {i x : Int} (h : CurIs T w p a n c i x) (j : Nat) : w.frozen? ⟨p, j, none⟩ = false := by
 unfold CurIs at h
 simp [World.frozen?, h]
theorem CurIs.set1 {T : TypeId} {w : World} {p : Nat} {a : Option Addr} {n c : Nat} {i x : Int} (h : CurIs T w p a n c i x) (i' : Int) : CurIs T (w.setCell ⟨p, 1, none⟩ (.int .i64 i')) p a n c i' x := by
 unfold CurIs at h ⊢
 obtain ⟨hlt, h'⟩ := Array.getElem?_eq_some_iff.1 h
 show (w.heap.modify p _)[p]? = _
 rw [Array.getElem?_eq_getElem (by simpa using hlt), Array.getElem_modify_self, h']
 rfl
theorem CurIs.set2 {T : TypeId} {w : World} {p : Nat} {a : Option Addr} {n c : Nat} {i x : Int} (h : CurIs T w p a n c i x) (x' : Int) : CurIs T (w.setCell ⟨p, 2, none⟩ (.int .i64 x')) p a n c i x' := by
 unfold CurIs at h ⊢
 obtain ⟨hlt, h'⟩ := Array.getElem?_eq_some_iff.1 h
 show (w.heap.modify p _)[p]? = _
 rw [Array.getElem?_eq_getElem (by simpa using hlt), Array.getElem_modify_self, h']
 rfl
theorem CurIs.drew {T : TypeId} {w : World} {p : Nat} {a : Option Addr} {n c : Nat} {i x : Int} (h : CurIs T w p a n c i x) : CurIs T w.drew p a n c i x := h
theorem byte_fin {C D : Prop} (V : Int) (hC : C) (hD : D) : ∃ x : Nat, x ≤ 255 ∧ Ending.returned (.int .i64 (V % 256)) = .returned (.int .i64 (x : Int)) ∧ C ∧ D :=
 ⟨(V % 256).toNat, by omega, by rw [show (((V % 256).toNat : Nat) : Int) = V % 256 by omega], hC, hD⟩
theorem cur_of {T : TypeId} {w w' : World} {p : Nat} {a : Option Addr} {n c : Nat} {i x : Int} (hO : Only p w w') (hB : BytesAt w p a n) (hI : CurIs T w' p a n c i x) (h0 : 0 ≤ i) (h1 : i ≤ n) (hn : n ≤ 1048576) : Cur T w' p a n c :=
 ⟨⟨i, x, hI, h0, h1⟩, hB.keep (fun k hk => hO.block k (by omega)), hn⟩
theorem below_fin {C D : Prop} {x : Nat} {m : Int} (h0 : 1 ≤ m) (hC : C) (hD : D) : ∃ y : Nat, (y : Int) < m ∧ Ending.returned (.int .i64 ((x : Int) % m)) = .returned (.int .i64 (y : Int)) ∧ C ∧ D := by
 obtain ⟨q, rfl⟩ : ∃ q : Nat, m = (q : Int) := ⟨m.toNat, by omega⟩
 have := Nat.mod_lt x (show 0 < q by omega)
 exact ⟨x % q, by omega, by rw [Int.natCast_emod], hC, hD⟩
theorem cur_new {T : TypeId} {w : World} {a : Option Addr} {n c : Nat} {x : Int} (hB : BytesAt w w.heap.size a n) (hn : n ≤ 1048576) : Cur T (w.alloc (.cells #[.slice a n c, .int .i64 0, .int .i64 x] T)) w.heap.size a n c :=
 ⟨⟨0, x, heap_alloc_new w _, by omega, by omega⟩, hB.keep (fun k hk => Below.heap_alloc _ _ _ hk), hn⟩
theorem Only.cell {p : Nat} {w w' : World} (h : Only p w w') {g o : Nat} (hg : g ≠ p) : w'.cell? ⟨g, o, none⟩ = w.cell? ⟨g, o, none⟩ := World.cell?_of_block (w := w) (h.block g hg)
end
section
open Go.ChangeShapes Go.WideShapes Go.ChangeAt Go.RowKit
theorem strayL_nil {ws L : List Int} : ∀ k, strayL ws L k = [] ↔ ∀ i, i < k → ws.getD i 0 = L.getD i 0
 | 0 => by simp [strayL]
 | k + 1 => by
   unfold strayL
   have ih := strayL_nil (ws := ws) (L := L) k
   split
   · rename_i h
     rw [ih]
     refine ⟨fun h1 i hi => ?_, fun h1 i hi => h1 i (by omega)⟩
     by_cases e : i = k
     · rw [e]; exact h
     · exact h1 i (by omega)
   · rename_i h
     refine ⟨fun h1 => ?_, fun h1 => absurd (h1 k (by omega)) h⟩
     simp at h1
theorem whole_iff {ws : List Int} (hok : OkRows (inX ws) (inS ws)) : WholeM ws ↔ strayL ws (specL (inX ws) (inS ws)) 20 = [] := by
 rw [strayL_nil]
 have hl := ok_twenty hok
 have hl2 : (specL (inX ws) (inS ws)).length = 20 := rfl
 refine ⟨fun h i _ => by rw [← h.2], fun h => ⟨hok, ?_⟩⟩
 refine List.ext_getElem (by omega) fun i h1 h2 => ?_
 have := h i (by omega)
 simpa [List.getD, h1, h2] using this
theorem stray_one {ws : List Int} {i : Nat} {y : Int} (hi : i < ws.length) (hy : y ≠ ws.getD i 0) : ∀ k, strayL (ws.set i y) ws k = if i < k then [(i : Int)] else []
 | 0 => by simp [strayL]
 | k + 1 => by
   have ih := stray_one hi hy k
   unfold strayL
   by_cases e : i = k
   · subst e
     have h1 : (ws.set i y).getD i 0 = y := by simp [List.getD, hi]
     rw [h1, if_neg hy, ih]
     simp
   · have h1 : (ws.set i y).getD k 0 = ws.getD k 0 := by simp [List.getD, List.getElem?_set_ne e]
     rw [if_pos h1, ih]
     by_cases h2 : i < k
     · rw [if_pos h2, if_pos (by omega)]
     · rw [if_neg h2, if_neg (by omega)]
theorem bent_in {ws : List Int} {i : Nat} {y : Int} (hi : 4 ≤ i ∧ i ≤ 9) : inX (ws.set i y) = inX ws ∧ inS (ws.set i y) = inS ws := by
 unfold inX inS
 rw [List.length_set]
 constructor
 · split
   · exact List.take_set_of_le (by omega)
   · rfl
 · split
   · simp [List.getD, List.getElem?_set_ne (show i ≠ 13 by omega)]
   · rfl
theorem bent_not {ws : List Int} {i : Nat} {y : Int} (hW : WholeM ws) (hi : 4 ≤ i ∧ i ≤ 9) (hy : y ≠ ws.getD i 0) : ¬ WholeM (ws.set i y) := fun h => by
 have h2 := h.2
 rw [(bent_in hi).1, (bent_in hi).2, ← hW.2] at h2
 have h3 : (ws.set i y).getD i 0 = y := by simp [List.getD, show i < ws.length by rw [hW.len]; omega]
 rw [h2] at h3
 exact hy h3.symm
theorem bent_tells {ws : List Int} {i : Nat} {y : Int} (hW : WholeM ws) (hi : 4 ≤ i ∧ i ≤ 9) : TellsL (inX (ws.set i y)) (inS (ws.set i y)) ws := by
 rw [(bent_in hi).1, (bent_in hi).2]
 exact .inl ⟨hW.1, hW.2⟩
def AllI (w : World) (ts : List (Option Addr × Nat × List Int)) : Prop := ∀ t ∈ ts, IntAt w t.1 t.2.1 t.2.2
theorem AllI.below {w w' : World} {ts : List (Option Addr × Nat × List Int)} (h : AllI w ts) (hb : Below w.heap.size w w') : AllI w' ts := fun t ht => (h t ht).below hb (Nat.le_refl _)
theorem AllI.cons {w : World} {ts : List (Option Addr × Nat × List Int)} {a : Option Addr} {n : Nat} {xs : List Int} (h : AllI w ts) (hx : IntAt w a n xs) : AllI w ((a, n, xs) :: ts) := fun t ht => by
 rcases List.mem_cons.1 ht with rfl | h1
 · exact hx
 · exact h t h1
theorem bytes_nowT {w w' : World} {a : Option Addr} {n : Nat} (h : BytesAt w w.heap.size a n) (hb : Below w.heap.size w w') : BytesAt w' w'.heap.size a n :=
 (h.keep fun k hk => hb.block k hk).mono hb.size
theorem at_one (a : Option Addr) (n c : Nat) (w : World) (hn : n ≤ 1048576) (hB : BytesAt w w.heap.size a n) :
   Calls Tryd.prog 23 #[.slice a n c, .int .i64 1] w fun e w' => ∃ r : Nat, r ≤ 255 ∧ e = .returned (.int .i64 (r : Int)) ∧ w' = w := by
 by_cases h1 : 1 < n
 · have hd : (1 : Int) < (n : Int) := by omega
   rcases hB with h0 | ⟨b, o, rfl, _, hc⟩
   · omega
   obtain ⟨z, hz, c1⟩ := hc 1 h1
   clear hc
   have hz2 : (z : Int) ≤ 255 := by omega
   go_enter Tryd.func23, Tryd.ntmps23
   go_wp2
   go_ret
   exact ⟨z, hz, by go_num, rfl⟩
 · have hd : ¬ (1 : Int) < (n : Int) := by omega
   have hn2 : (n : Int) ≤ 1 := by omega
   have e7 : (7 + (n : Int)) % 256 = ((7 + n : Nat) : Int) := by omega
   clear hB
   go_enter Tryd.func23, Tryd.ntmps23
   go_wp2
   go_ret
   exact ⟨7 + n, by omega, by go_num, rfl⟩
end
abbrev S (l : List UInt8) : Value := .string ⟨l.toArray⟩
section
open Go.ChangeShapes Go.WideShapes Go.ChangeAt Go.RowKit
theorem l1Byte_any (p : Nat) (a : Option Addr) (n c : Nat) (w : World) (hC : Cur 55 w p a n c) :
   Calls Tryd.prog 48 #[.pointer (some ⟨p, 0, none⟩)] w fun e w' => ∃ x : Nat, x ≤ 255 ∧ e = .returned (.int .i64 (x : Int)) ∧ Cur 55 w' p a n c ∧ Only p w w' := by
 obtain ⟨⟨i, h, hI, hi0, hi1⟩, hB, hn⟩ := hC
 obtain ⟨j, rfl⟩ : ∃ j : Nat, i = (j : Int) := ⟨i.toNat, by omega⟩
 obtain ⟨c0, c1, c2⟩ := hI.cell
 have f1 := hI.frozen 1
 have f2 := hI.frozen 2
 have HI : Hid (CurIs 55 w p a n c j h) := hI
 have HB : Hid (BytesAt w p a n) := hB
 have hand := and255
 clear hI hB
 by_cases hlt : j < n
 · rcases HB.out with h0 | ⟨b, o, rfl, hbp, hby⟩
   · omega
   obtain ⟨z, hz, e1⟩ := hby j hlt
   clear hby
   go_enter Tryd.func48, Tryd.ntmps48
   go_wp2
   go_region
   go_wp2
   go_region
   go_wp2
   go_region
   go_wp2
   go_ret
   have hO : Only p w (((w.setCell ⟨p, 2, none⟩ (.int .i64 (wrap64 (wrap64 (h * 6364136223846793005) + 1442695040888963407)))).setCell ⟨p, 1, none⟩ (.int .i64 ((j : Int) + 1))).drew.drew.drew) := (((Only.refl p w).setCell 2 _).setCell 1 _).drew.drew.drew
   exact byte_fin _ (cur_of hO HB.out ((HI.out.set2 _).set1 _) (by omega) (by omega) hn) hO
 · go_enter Tryd.func48, Tryd.ntmps48
   go_wp2
   go_region
   go_wp2
   go_region
   go_wp2
   go_ret
   have hO : Only p w ((w.setCell ⟨p, 2, none⟩ (.int .i64 (wrap64 (wrap64 (h * 6364136223846793005) + 1442695040888963407)))).drew.drew) := ((Only.refl p w).setCell 2 _).drew.drew
   exact byte_fin _ (cur_of hO HB.out (HI.out.set2 _) hi0 hi1 hn) hO
theorem l1Below_any (p : Nat) (a : Option Addr) (n c : Nat) (m : Int) (h0 : 1 ≤ m) (hm : m ≤ 256) (w : World) (hC : Cur 55 w p a n c) :
   Calls Tryd.prog 28 #[.pointer (some ⟨p, 0, none⟩), .int .i64 m] w fun e w' => ∃ x : Nat, (x : Int) < m ∧ e = .returned (.int .i64 (x : Int)) ∧ Cur 55 w' p a n c ∧ Only p w w' := by
 go_enter Tryd.func28, Tryd.ntmps28
 go_wp2_with (go_at_call 48; refine (l1Byte_any p a n c _ hC).mono ?_; rintro e w1 ⟨x, hx, rfl, hC1, hO1⟩)
 go_ret
 exact below_fin h0 hC1 hO1
theorem l1New_any (a : Option Addr) (n c : Nat) (w : World) (hn : n ≤ 1048576) (hB : BytesAt w w.heap.size a n) :
   Calls Tryd.prog 25 #[.slice a n c] w fun e w' => e = .returned (.pointer (some ⟨w.heap.size, 0, none⟩)) ∧ Cur 55 w' w.heap.size a n c ∧ Below w.heap.size w w' ∧ w'.heap.size = w.heap.size + 1 := by
 have HB : Hid (BytesAt w w.heap.size a n) := hB
 clear hB
 go_enter Tryd.func25, Tryd.ntmps25
 go_wp2
 go_loop [3, 4] (fun h i => ∃ (x : Int) (k : Nat), h = .int .i64 x ∧ i = .int .i64 (k : Int) ∧ k ≤ n) (fun _ i => n - (intOf i).toNat)
 case atStart => exact ⟨_, 0, rfl, rfl, Nat.zero_le _⟩
 case round =>
   obtain ⟨x, k, rfl, rfl, hk⟩ := hrel
   by_cases hlt : k < n
   · rcases HB.out with h0 | ⟨b, o, rfl, hbp, hby⟩
     · omega
     obtain ⟨z, hz, e1⟩ := hby k hlt
     clear hby
     by_cases h4 : k < 4000
     · go_wp2
       go_round
       case rel => exact ⟨_, k + 1, rfl, by go_num, by omega⟩
       case measure => simp [intOf]; omega
     · go_wp2
       go_ret
       exact ⟨rfl, cur_new HB.out hn, (Below.refl _ _).alloc (Nat.le_refl _) _, by simp⟩
   · go_wp2
     go_ret
     exact ⟨rfl, cur_new HB.out hn, (Below.refl _ _).alloc (Nat.le_refl _) _, by simp⟩
theorem l1PickInt_any (p : Nat) (a : Option Addr) (n c g q d : Nat) (xs : List Int) (h0 : 1 ≤ q) (hq : q ≤ 256) (w : World) (hC : Cur 55 w p a n c) (hg : g ≠ p)
   (hx : ∀ i, i < q → w.cell? ⟨g, i, none⟩ = some (.int .i64 (xs.getD i 0))) :
   Calls Tryd.prog 57 #[.pointer (some ⟨p, 0, none⟩), .slice (some ⟨g, 0, none⟩) q d] w fun e w' => ∃ x : Nat, x < q ∧ e = .returned (.int .i64 (xs.getD x 0)) ∧ Cur 55 w' p a n c ∧ Only p w w' := by
 have HX : Hid (∀ i, i < q → w.cell? ⟨g, i, none⟩ = some (.int .i64 (xs.getD i 0))) := hx
 clear hx
 go_enter Tryd.func57, Tryd.ntmps57
 go_wp2_with (go_at_call 28; refine (l1Below_any p a n c _ (by omega) (by omega) _ hC).mono ?_; rintro e w1 ⟨x, hx, rfl, hC1, hO1⟩; have hlt : x < q := (by omega); have e1 := (hO1.cell (o := x) hg).trans (HX.out x hlt))
 go_ret
 exact ⟨x, hlt, rfl, hC1, hO1⟩
end
end Go.Proofs.YtfanppifelajnaaDoor
