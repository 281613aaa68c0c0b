/- Texts joined: CloneO, AnewW, IsF, LawTH0, ImplRp. -/
import Derived.Test.YtbfolanfbagofaaGreatDoorQA14
import Derived.Test.YtbfolanfbagofaaGreatDoorQA30
import Derived.Lib.LazyBuf
import Derived.Deep.RegionHeld3
import Derived.Test.YtbfolanfbagofaaGreatDoorQA01
import Derived.WalkKit
import Derived.LaidEql
import Derived.Stop.Asserts
import Derived.RowKitTokens
import Derived.Test.YtbfolanfbagofaaGreatDoorQA15
import Derived.Test.YtbfolanfbagofaaGreatDoorQA22
import Derived.Defers
import Derived.FnLit
import Derived.Deep.Cut
set_option maxHeartbeats 16000000
set_option maxRecDepth 100000
namespace Go.Proofs.YtbfolanfbagofaaGreatDoor
section
open Go.ChangeShapes Go.WideShapes Go.ChangeAt Go.RowKit Go.Joins
theorem own_emptyT {w : World} {base : Nat} {T : TypeId} {size : Nat} (hb : base ≤ w.heap.size) : (w.alloc (.cells #[] T)).ownsRow base T size (.slice (some ⟨w.heap.size, 0, none⟩) 0 0) 0 [] :=
 ⟨by simp, .inr ⟨w.heap.size, 0, #[], rfl, hb, (by show (w.heap.push _)[w.heap.size]? = _; simp), Nat.le_refl _, by unfold maxLen; omega, by simp, by simp⟩⟩
theorem eql_nil {P : Program} (w : World) {t e : TypeId} {a : Option Addr} {l c : Nat} (h : P.underlying t = some (.slice e)) : (binOp .eql t (.slice a l c) (.slice none 0 0)).run P w = .ok (.bool a.isNone) w := by
 simp [binOp, run_equal_slice_nil w t e a l c h]
theorem cell_alloc {w : World} {q : Addr} {u : Value} {o : Obj} (h : w.cell? q = some u) : (w.alloc o).cell? q = some u := by
 rw [World.cell?_of_block (Below.heap_alloc _ _ _ (World.block_lt_of_cell? w _ h))]
 exact h
theorem int_cell {w : World} {ad : Addr} {n : Nat} {es : List Int} {o : Obj} (h : IntAt w (some ad) n es) {j : Nat} {v : Value} (hj : (es.map I)[j]? = some v) : (w.alloc o).cell? (ad.add j) = some v := by
 refine cell_alloc ?_
 rw [List.getElem?_map] at hj
 have hl : j < es.length := by
   rcases Nat.lt_or_ge j es.length with h1 | h1
   · exact h1
   · rw [List.getElem?_eq_none h1] at hj; cases hj
 rcases h.2.2 with h0 | ⟨b, o, he, g⟩
 · have := h.1; omega
 · cases he
   have h1 := g j (by have := h.1; omega)
   have e : (⟨b, o, none⟩ : Addr).add j = ⟨b, o + j, none⟩ := by simp [Addr.add]
   rw [e, h1]
   rw [List.getElem?_eq_getElem hl] at hj
   simpa [List.getD, hl] using hj
theorem news3 {es : List Int} : ∀ v ∈ es.map I, v.oneCell' = true := by
 intro v hv
 simp at hv
 obtain ⟨x, _, rfl⟩ := hv
 rfl
theorem cloneI_o (a : Option Addr) (n c : Nat) (es : List Int) (w : World) (h : IntAt w a n es) (ha : a = none → c = 0) :
   Calls Tryz.prog 130 #[.slice a n c] w fun e w' => ∃ v, e = .returned v ∧ w'.ownsRow w.heap.size 3 1 v n (es.map I) ∧ Below w.heap.size w w' := by
 obtain ⟨i0, hi, hz0, hz1, hz2⟩ := info_parts infoInt
 rcases a with _ | ad
 · obtain rfl : c = 0 := ha rfl
   obtain rfl : n = 0 := by
     rcases h.2.2 with h0 | ⟨_, _, he, _⟩
     · exact h0
     · cases he
   have HV : Hid ((es.map I) = []) := by
     show _ = []
     rw [show es = [] from List.length_eq_zero_iff.1 (by have := h.1; simpa using this)]; rfl
   have hE : ∀ w : World, (binOp .eql 28 (.slice none 0 0) (.slice none 0 0)).run Tryz.prog w = .ok (.bool true) w := fun w => eql_nil w Tryz.underlying28
   clear h ha
   go_enter Tryz.func130, Tryz.ntmps130
   go_wp2
   go_ret
   exact ⟨_, rfl, by rw [HV.out]; exact World.ownsRow_nil _ _ _ _, Below.refl _ _⟩
 have hn := h.2.1
 have HS : Hid (((es.map I)).length = n * 1 ∧ (∀ j u, ((es.map I))[j]? = some u → (w.alloc (.cells #[] 3)).cell? (ad.add j) = some u) ∧ ∀ u ∈ (es.map I), u.oneCell' = true) := by
   exact ⟨by rw [List.length_map, h.1]; omega, fun j u hj => int_cell h hj, news_one⟩
 have hE : ∀ w : World, (binOp .eql 28 (.slice (some ad) n c) (.slice none 0 0)).run Tryz.prog w = .ok (.bool false) w := fun w => eql_nil w Tryz.underlying28
 clear h ha
 go_enter Tryz.func130, Tryz.ntmps130
 go_wp2_with
   (at_builtin
    refine wpList_append_own _ rfl _ _ 28 rfl w.heap.size 3 i0 (.int .i64 0) 1 8 Tryz.underlying28 hi hz0 hz1 hz2 rfl (by decide) (.slice (some ⟨w.heap.size, 0, none⟩) 0 0) 0 [] rfl (own_emptyT (Nat.le_refl _)) ad n c ((es.map I)) rfl HS.out.1 HS.out.2.1 HS.out.2.2 (by unfold maxLen; omega) (by omega) (by simp) ?_
    intro v' w2 own2 grow2 _)
 have hb2 : Below w.heap.size w w2 := ((Below.refl _ w).alloc (Nat.le_refl _) _).grown grow2 (by simp) (fun k e => by
   have h1 : w.heap.size = k := by simpa [Value.ownBlock] using e
   omega)
 rw [Nat.zero_add, List.nil_append] at own2
 go_ret
 exact ⟨_, rfl, own2, hb2⟩
theorem rowsAnew_o (st : Int) (a : Option Addr) (n c : Nat) (rs : List Int) (w : World) (h : IntAt w a n rs) (ha : a = none → c = 0) :
   Calls Tryz.prog 84 #[.agg #[.slice a n c, .int .i64 st]] w fun e w' => ∃ v, e = .returned (.agg #[v, .int .i64 st]) ∧ w'.ownsRow w.heap.size 3 1 v n (rs.map I) ∧ Below w.heap.size w w' := by
 obtain ⟨W, hW⟩ : ∃ W, ((w.alloc (.cells #[.slice a n c, .int .i64 st] 41)).alloc (.cells #[.slice none 0 0, .int .i64 0] 41)) = W := ⟨_, rfl⟩
 have hb0 : Below w.heap.size w W := by rw [← hW]; exact ((Below.refl _ w).alloc (Nat.le_refl _) _).alloc (by simp) _
 have hsz : w.heap.size + 1 < W.heap.size := by rw [← hW]; simp
 have X0 : Hid (Box W w.heap.size #[.slice a n c, .int .i64 st] 41) := by rw [← hW]; exact (box_of w _ _).alloc _
 have R0 : Hid (Box W (w.heap.size + 1) #[.slice none 0 0, .int .i64 0] 41) := by
   have := box_of (w.alloc (.cells #[.slice a n c, .int .i64 st] 41)) #[.slice none 0 0, .int .i64 0] 41
   rw [hW] at this
   show Box _ _ _ _
   simpa using this
 have HA : Hid (IntAt W a n rs) := h.below hb0 (Nat.le_refl _)
 have HB0 : Hid (Below w.heap.size w W) := hb0
 have HW : Hid (((w.alloc (.cells #[.slice a n c, .int .i64 st] 41)).alloc (.cells #[.slice none 0 0, .int .i64 0] 41)) = W) := hW
 have HAN : Hid (a = none → c = 0) := ha
 obtain ⟨k0, k1, _, _⟩ := X0.out.two
 have K0 : Hid (W.drew.cell? ⟨w.heap.size, 0, none⟩ = some (.slice a n c) ∧ W.drew.cell? ⟨w.heap.size, 1, none⟩ = some (.int .i64 st)) := ⟨k0, k1⟩
 clear h ha hW hb0 k0 k1
 go_enter Tryz.func84, Tryz.ntmps84
 go_wp2_with fail
 rw [HW.out]
 go_region_held3 (fun w' => w'.cell? ⟨w.heap.size, 0, none⟩ = some (.slice a n c) ∧ w'.cell? ⟨w.heap.size, 1, none⟩ = some (.int .i64 st))
   (first | (with_reducible exact K2.out) | (with_reducible exact K1.out) | (with_reducible exact K0.out) | go_keep)
   (first
   | (go_at_call 130
      refine (cloneI_o a n c rs _ (HA.out.below (Below.refl W.heap.size W).drew (Nat.le_refl _)) HAN.out).mono ?_
      rintro e w1 ⟨v, rfl, own1, hb1⟩
      have hb1' : Below W.heap.size W w1 := (Below.refl W.heap.size W).drew.trans hb1
      obtain ⟨va, vc, rfl, _⟩ := owns_slice own1
      have OW : Hid (w1.ownsRow W.heap.size 3 1 (.slice va n vc) n (rs.map I)) := own1
      have HB1 : Hid (Below W.heap.size W w1) := hb1'
      have R1 : Hid (Box w1 (w.heap.size + 1) #[.slice none 0 0, .int .i64 0] 41) := R0.out.below hb1' hsz
      obtain ⟨r0, r1, z0, z1⟩ := R1.out.two
      obtain ⟨k0, k1, _, _⟩ := (X0.out.below hb1' X0.out.lt).two
      have K1 : Hid (w1.cell? ⟨w.heap.size, 0, none⟩ = some (.slice a n c) ∧ w1.cell? ⟨w.heap.size, 1, none⟩ = some (.int .i64 st)) := ⟨k0, k1⟩
      have K2 : Hid (((w1.setCell ⟨w.heap.size + 1, 0, none⟩ (.slice va n vc)).setCell ⟨w.heap.size + 1, 1, none⟩ (.int .i64 st)).cell? ⟨w.heap.size, 0, none⟩ = some (.slice a n c) ∧ ((w1.setCell ⟨w.heap.size + 1, 0, none⟩ (.slice va n vc)).setCell ⟨w.heap.size + 1, 1, none⟩ (.int .i64 st)).cell? ⟨w.heap.size, 1, none⟩ = some (.int .i64 st)) := by
        have := (((X0.out.below hb1' X0.out.lt).set (q := ⟨w.heap.size + 1, 0, none⟩) (show w.heap.size ≠ w.heap.size + 1 by omega) (.slice va n vc)).set (q := ⟨w.heap.size + 1, 1, none⟩) (show w.heap.size ≠ w.heap.size + 1 by omega) (.int .i64 st)).two
        exact ⟨this.1, this.2.1⟩
      clear own1 hb1 hb1' k0 k1))
 obtain ⟨e0, e1, _, _⟩ := ((R1.out.put 0 (.slice va n vc)).put 1 (.int .i64 st)).two
 go_wp2
 (try simp only [Exit.inBlock, Exit.then])
 refine bodyPost_ret (by simp [results, Tryz.results84, go_sem, e0, e1]; try rfl) rfl ?_
 have hwb : (Value.slice va n vc).ownBlock ≠ some (w.heap.size + 1) := fun e => by have := (OW.out.lt _ e).1; omega
 exact ⟨.slice va n vc, rfl, own_setCell_far (own_setCell_far (own_weaken OW.out HB0.out.size) hwb _) hwb _, ((HB0.out.trans (HB1.out.mono HB0.out.size)).setCell (by simp) _).setCell (by simp) _⟩
end
section
open Go.RowKit Go.Extern.Stop Go.Stop Go.Extern
def isEntry : Array Value → Sem Value := Go.Extern.ReflectliteType.method fun t => do Go.Extern.Rtype.noPackHeld "Comparable" t; pure (.bool (← typeInfo t).comparable)
theorem is_typeOf (v : Value) (w : World) : (Extern.ReflectliteType.typeOf #[.iface 260 v]).run Tryz.prog w = .ok (.iface 187 (.agg #[.pointer (some ⟨5, 260, none⟩)])) w := by kernel_rfl
theorem is_comparable (w : World) : (isEntry #[.agg #[.pointer (some ⟨5, 260, none⟩)]]).run Tryz.prog w = .ok (.bool true) w := by kernel_rfl
theorem is_method (v : Value) (w : World) : (Go.method 396 187 v "Comparable").run Tryz.prog w = .ok (216, v) w := by kernel_rfl
theorem is_comp : (Tryz.prog.info? 260).map (·.comparable) = some true := by kernel_rfl
theorem is_size : (Tryz.prog.info? 284).map (·.size) = some 1 := by kernel_rfl
theorem is_no (v : Value) (xT : TypeId) (w : World) : (Instr.typeAssert (.iface 260 v) xT 189 true).run Tryz.prog w = .ok (.tuple #[.nilIface, .bool false]) w := run_typeAssert_lacksB Tryz.underlying189 (by kernel_rfl) (by kernel_rfl) v xT w
theorem is_noU (v : Value) (xT : TypeId) (w : World) : (Instr.typeAssert (.iface 260 v) xT 192 true).run Tryz.prog w = .ok (.tuple #[.nilIface, .bool false]) w := run_typeAssert_lacksB Tryz.underlying192 (by kernel_rfl) (by kernel_rfl) v xT w
theorem is_noUs (v : Value) (xT : TypeId) (w : World) : (Instr.typeAssert (.iface 260 v) xT 194 true).run Tryz.prog w = .ok (.tuple #[.nilIface, .bool false]) w := run_typeAssert_lacksB Tryz.underlying194 (by kernel_rfl) (by kernel_rfl) v xT w
theorem is_same (a : Addr) (w : World) :
   Calls Tryz.prog 46 #[.iface 260 (.pointer (some a)), .iface 260 (.pointer (some a))] w fun e w' => e = .returned (.bool true) ∧ w' = w := by
 obtain ⟨i, hi, hcmp⟩ := Option.map_eq_some_iff.1 is_comp
 obtain ⟨j, hj, hjs⟩ := Option.map_eq_some_iff.1 is_size
 have h8 := @run_callFunc_extern Tryz.prog 87 _ Extern.ReflectliteType.typeOf Tryz.func87 (by kernel_rfl) (by kernel_rfl) (by kernel_rfl) (by kernel_rfl)
 have h32 := @run_callFunc_extern Tryz.prog 216 _ isEntry Tryz.func216 (by kernel_rfl) (by kernel_rfl) (by kernel_rfl) (by kernel_rfl)
 have tT := is_typeOf
 have cT := is_comparable
 have mR := is_method
 have heq := run_eql_iface_ptr_same (P := Tryz.prog) w a Tryz.underlying96 Tryz.underlying260 hi hcmp hj
 go_enter Tryz.func46, Tryz.ntmps46
 go_wp2
 refine wp_loop_rounds 1 ?_
 rw [rounds_succ]
 go_wp2
 go_ret
 exact ⟨rfl, rfl⟩
theorem is_nil (b : Addr) (w : World) :
   Calls Tryz.prog 46 #[.nilIface, .iface 260 (.pointer (some b))] w fun e w' => e = .returned (.bool false) ∧ w' = w := by
 have hn := run_eql_iface_nil_left (P := Tryz.prog) w 260 (.pointer (some b)) Tryz.underlying96
 go_enter Tryz.func46, Tryz.ntmps46
 go_wp2
 go_ret
 exact ⟨rfl, rfl⟩
theorem is_other (a b : Addr) (ca cb : Array Value) (ta tb : TypeId) (w : World) (hne : a ≠ b) (ha : w.heap[a.block]? = some (.cells ca ta (0, 0))) (hb : w.heap[b.block]? = some (.cells cb tb (0, 0))) :
   Calls Tryz.prog 46 #[.iface 260 (.pointer (some a)), .iface 260 (.pointer (some b))] w fun e w' => e = .returned (.bool false) ∧ w' = w := by
 obtain ⟨i, hi, hcmp⟩ := Option.map_eq_some_iff.1 is_comp
 obtain ⟨j, hj, hjs⟩ := Option.map_eq_some_iff.1 is_size
 have h8 := @run_callFunc_extern Tryz.prog 87 _ Extern.ReflectliteType.typeOf Tryz.func87 (by kernel_rfl) (by kernel_rfl) (by kernel_rfl) (by kernel_rfl)
 have h32 := @run_callFunc_extern Tryz.prog 216 _ isEntry Tryz.func216 (by kernel_rfl) (by kernel_rfl) (by kernel_rfl) (by kernel_rfl)
 have tT := is_typeOf
 have cT := is_comparable
 have mR := is_method
 have nE := is_no
 have uE := is_noU
 have vE := is_noUs
 have heq := run_eql_iface_ptr_other (P := Tryz.prog) w Tryz.underlying96 Tryz.underlying260 hi hcmp hj (by rw [hjs]; decide) hne ha hb
 go_enter Tryz.func46, Tryz.ntmps46
 go_wp2
 refine wp_loop_rounds 1 ?_
 rw [rounds_succ]
 go_wp2
 go_ret
 exact ⟨rfl, rfl⟩
end
theorem wp_cut {P : Program} {code : Code} {K : Act → World → Prop} {a : Act} {w : World} {Q : Exit → Act → World → Prop} (hreg : code.wp P (Exit.then K (fun _ _ _ => False)) a w) (hrest : ∀ a' w', K a' w' → Q .normal a' w') : code.wp P Q a w := by
 refine Code.wp_mono ?_ hreg
 intro e a' w' h
 cases e with
 | normal => exact hrest a' w' h
 | _ => exact h.elim
section
open Go.ChangeShapes Go.WideShapes Go.ChangeAt Go.RowKit
structure ErrX (w : World) (a0 a1 : Addr) : Prop where
 c0 : w.cell? ⟨0, 0, none⟩ = some (.iface 260 (.pointer (some a0)))
 c1 : w.cell? ⟨1, 0, none⟩ = some (.iface 260 (.pointer (some a1)))
 ne : a0 ≠ a1
 b0 : ∃ c t, w.heap[a0.block]? = some (.cells c t (0, 0))
 b1 : ∃ c t, w.heap[a1.block]? = some (.cells c t (0, 0))
theorem ErrX.below {w w' : World} {a0 a1 : Addr} (h : ErrX w a0 a1) {B : Nat} (hb : Below B w w') (hB : w.heap.size ≤ B) : ErrX w' a0 a1 := by
 obtain ⟨h1, h2, h3, ⟨c, t, h4⟩, c', t', h5⟩ := h
 refine ⟨(hb.cell (Nat.lt_of_lt_of_le (World.block_lt_of_cell? w _ h1) hB)).trans h1, (hb.cell (Nat.lt_of_lt_of_le (World.block_lt_of_cell? w _ h2) hB)).trans h2, h3, ⟨c, t, ?_⟩, c', t', ?_⟩
 · rw [hb.block _ (Nat.lt_of_lt_of_le (Array.getElem?_eq_some_iff.1 h4).1 hB)]; exact h4
 · rw [hb.block _ (Nat.lt_of_lt_of_le (Array.getElem?_eq_some_iff.1 h5).1 hB)]; exact h5
def ErrR (w : World) : Prop := ∃ a0 a1, ErrX w a0 a1
theorem ErrR.below {w w' : World} (h : ErrR w) {B : Nat} (hb : Below B w w') (hB : w.heap.size ≤ B) : ErrR w' := let ⟨a0, a1, h⟩ := h; ⟨a0, a1, h.below hb hB⟩
theorem rowsR_room {w : World} {base : Nat} {a : Option Addr} {c : Nat} {xs : List Value} (h : w.ownsRow base 3 1 (.slice a 4 c) 4 xs) : 4 ≤ c := (own_room h).1
theorem rowsR_wf {xs : List Int} {st : Int} (h : OkRows xs st) : ∀ x ∈ xs, (Lit.int .i64 x).wf = true := by
 intro x hx
 obtain ⟨h4, -, -, hg⟩ := h
 by_cases h0 : x = 0
 · subst h0; decide
 · have hm : posK xs 4 x ≠ [] := by
     obtain ⟨i, hi, rfl⟩ := List.getElem_of_mem hx
     have : ((i : Nat) : Int) ∈ posK xs 4 xs[i] := List.mem_map.2 ⟨i, List.mem_filter.2 ⟨List.mem_range.2 (by omega), by simp [List.getD, hi]⟩, rfl⟩
     exact List.ne_nil_of_mem this
   have := (hg x h0 hm).1
   exact WalkArith.wf_i64 (by omega)
def RplI (M : MaD) (rs : Nat → List Int) (a0 a1 : Addr) (base : Nat) (e : Ending) (w' : World) : Prop :=
 (MachGood M ∧ ∃ g c zs st' ok, e = .returned (.tuple #[.agg #[.slice (some ⟨g, 0, none⟩) 4 c, .int .i64 st'], bif ok then .nilIface else .iface 260 (.pointer (some a1))]) ∧ ReplM M rs M.no zs st' ∧ (ok = true ↔ SoM M rs M.no) ∧ w'.ownsRow base 3 1 (.slice (some ⟨g, 0, none⟩) 4 c) 4 (zs.map I))
 ∨ (¬ MachGood M ∧ e = .returned (.tuple #[.agg #[.slice none 0 0, .int .i64 0], .iface 260 (.pointer (some a0))]))
structure RiSt (w : World) (sz sb : Nat) (mv : Array Value) (M : MaD) (rs : Nat → List Int) (k : Nat) (B : Bool) (wr : World) (g c : Nat) (zs : List Int) (st' : Int) : Prop where
 m : Box wr sz mv 43
 r : Box wr (sz + 1) #[.slice (some ⟨g, 0, none⟩) 4 c, .int .i64 st'] 41
 err : Box wr (sz + 2) #[.nilIface] 96
 s : Box wr sb #[.bool B] 4
 own : wr.ownsRow (sz + 3) 3 1 (.slice (some ⟨g, 0, none⟩) 4 c) 4 (zs.map I)
 far : g ≠ sb
 rep : ReplM M rs k zs st'
 so : B = true ↔ SoM M rs k
 blw : Below sz w wr
 lt : sz + 2 < sb
theorem cellO_of {w : World} {b : Nat} {x0 : Value} {T : TypeId} (h : Box w b #[x0] T) : w.cell? ⟨b, 0, none⟩ = some x0 ∧ w.frozen? ⟨b, 0, none⟩ = false := ⟨h.cell 0, h.frozen 0⟩
def IsAct (b : Act) (W : World) (a : Act) (w : World) : Prop := a = b ∧ w = W
theorem replay_told (so err : Addr) (u : FrameMode) (w : World) (hc : w.cell? so = some (.bool true)) :
   CallsD Tryz.prog 83 #[.pointer (some so), .pointer (some err)] u w fun e u' w' => u' = u ∧ (e = .returned (.tuple #[]) ∧ w' = w) := by
 go_enter_d Tryz.func83, Tryz.ntmps83
 go_wp2
 go_end0
 exact ⟨rfl, rfl⟩
theorem replay_not (so err : Addr) (u : FrameMode) (a1 : Addr) (w : World) (hc : w.cell? so = some (.bool false)) (hg : w.cell? ⟨1, 0, none⟩ = some (.iface 260 (.pointer (some a1)))) (he : w.cell? err = some .nilIface) (hz : w.frozen? err = false) :
   CallsD Tryz.prog 83 #[.pointer (some so), .pointer (some err)] u w fun e u' w' => u' = u ∧ (e = .returned (.tuple #[]) ∧ w' = w.setCell err (.iface 260 (.pointer (some a1)))) := by
 go_enter_d Tryz.func83, Tryz.ntmps83
 go_wp2
 go_end0
 exact ⟨rfl, rfl⟩
theorem impl_replay (wa : Option Addr) (wc : Nat) (da : Option Addr) (dc : Nat) (ta : Option Addr) (tc : Nat) (ca : Option Addr) (cc : Nat) (oa : Option Addr) (oc : Nat) (ha : Option Addr) (hc : Nat) (M : MaD) (rs : Nat → List Int) (w : World) (h : MaAt w wa da ta ca oa ha M) (hr : CasR w ca M.nc M.f rs) (hcap : CapAt w da M.nd M.ds) (hwf : ∀ x ∈ M.hs, (Lit.int .i64 x).wf = true) (hhc : M.nh ≤ hc) (a0 a1 : Addr) (he : ErrX w a0 a1) :
   Calls Tryz.prog 45 #[MaV wa wc da dc ta tc ca cc oa oc ha hc M] w fun e w' => RplI M rs a0 a1 w.heap.size e w' ∧ Below w.heap.size w w' := by
 have hmf : ∀ (fn : Fn) (first cap : Array Value) (w : World), (Instr.makeFunc fn first cap).run Tryz.prog w = .ok (.func fn first cap) w := fun _ _ _ _ => rfl
 have HM : Hid (MaAt w wa da ta ca oa ha M ∧ CapAt w da M.nd M.ds ∧ (∀ x ∈ M.hs, (Lit.int .i64 x).wf = true) ∧ M.nh ≤ hc) := ⟨h, hcap, hwf, hhc⟩
 have HCR : Hid (CasR w ca M.nc M.f rs) := hr
 have HEX : Hid (ErrX w a0 a1) := he
 obtain ⟨MX, hMX⟩ : ∃ MX, M = MX := ⟨_, rfl⟩
 have HMX : Hid (M = MX) := hMX
 obtain ⟨MO, hMO⟩ : ∃ MO : Prop, MachGood M = MO := ⟨_, rfl⟩
 have HMO : Hid (MachGood M = MO) := hMO
 have HORD : Hid (MO → ∀ i, i < M.no → OrdAt M.f M.nc M.os i) := fun h => by rw [← hMO] at h; exact h.calls.ord
 have HLEN : Hid (MO → M.hs.length = 4) := fun h => by rw [← hMO] at h; exact ok_len h
 have HR0 : Hid (ReplM MX rs 0 M.hs M.st) := by rw [← hMX]; exact ⟨rfl, rfl⟩
 have HROK : Hid (MO → ∀ i xs s, ReplM MX rs i xs s → OkRows xs s) := fun h i xs s hx => by rw [← hMO] at h; rw [← hMX] at hx; exact hx.ok h.first
 have HF : Hid (MX.f = M.f ∧ MX.os = M.os ∧ MX.no = M.no) := by rw [← hMX]; exact ⟨rfl, rfl, rfl⟩
 have HXO : Hid (MachGood MX = MO) := by rw [← hMX]; exact hMO
 have H1 : Hid (IntAt w oa M.no M.os) := h.ord
 have H2 : Hid (IntAt w ha M.nh M.hs) := h.held
 have hno := h.ord.2.1
 have hnc := h.calls.1
 have hl1 := h.held.1
 have HHC : Hid (M.nh ≤ hc) := hhc
 obtain ⟨SAY, hSAY⟩ : ∃ SAY, RplI M rs a0 a1 w.heap.size = SAY := ⟨_, rfl⟩
 have HS2 : Hid (∀ e w', RplI MX rs a0 a1 w.heap.size e w' → SAY e w') := fun e w' h => by rw [← hSAY, HMX.out]; exact h
 show Calls Tryz.prog 45 #[MaV wa wc da dc ta tc ca cc oa oc ha hc M] w fun e w' => RplI M rs a0 a1 w.heap.size e w' ∧ Below w.heap.size w w'
 rw [hSAY]
 clear hSAY hMX hMO h hr hcap hwf hhc he
 clear HMX
 obtain ⟨nw, ws, nd, ds, nt, ts, tm, nc, f, no, os, nh, hs, st⟩ := M
 dsimp only at HCR HORD HLEN HR0 HF H1 H2 hno hnc hl1 HHC
 show Calls Tryz.prog 45 #[.agg #[.slice wa nw wc, .slice da nd dc, .slice ta nt tc, .int .i64 tm, .slice ca nc cc, .slice oa no oc, .slice ha nh hc, .int .i64 st]] w fun e w' => SAY e w' ∧ Below w.heap.size w w'
 obtain ⟨sz, hsz⟩ : ∃ sz, w.heap.size = sz := ⟨_, rfl⟩
 obtain ⟨W, hW⟩ : ∃ W, ((w.alloc (.cells #[.slice wa nw wc, .slice da nd dc, .slice ta nt tc, .int .i64 tm, .slice ca nc cc, .slice oa no oc, .slice ha nh hc, .int .i64 st] 43)).alloc (.cells #[.slice none 0 0, .int .i64 0] 41)).alloc (.cells #[.nilIface] 96) = W := ⟨_, rfl⟩
 have hb0 : Below sz w W := by rw [← hW, ← hsz]; exact (((Below.refl _ w).alloc (Nat.le_refl _) _).alloc (by simp) _).alloc (by simp; omega) _
 have BM : Hid (Box W sz #[.slice wa nw wc, .slice da nd dc, .slice ta nt tc, .int .i64 tm, .slice ca nc cc, .slice oa no oc, .slice ha nh hc, .int .i64 st] 43) := by rw [← hW, ← hsz]; exact ((box_of w _ _).alloc _).alloc _
 have BO : Hid (Box W (sz + 1) #[.slice none 0 0, .int .i64 0] 41) := by rw [← hW, ← hsz]; have := box_of (w.alloc (.cells #[.slice wa nw wc, .slice da nd dc, .slice ta nt tc, .int .i64 tm, .slice ca nc cc, .slice oa no oc, .slice ha nh hc, .int .i64 st] 43)) #[.slice none 0 0, .int .i64 0] 41; rw [World.size_alloc] at this; exact this.alloc _
 have BE : Hid (Box W (sz + 2) #[.nilIface] 96) := by rw [← hW, ← hsz]; have := box_of ((w.alloc (.cells #[.slice wa nw wc, .slice da nd dc, .slice ta nt tc, .int .i64 tm, .slice ca nc cc, .slice oa no oc, .slice ha nh hc, .int .i64 st] 43)).alloc (.cells #[.slice none 0 0, .int .i64 0] 41)) #[.nilIface] 96; rw [World.size_alloc, World.size_alloc] at this; exact this
 have HB0 : Hid (Below sz w W) := hb0
 have HW : Hid (((w.alloc (.cells #[.slice wa nw wc, .slice da nd dc, .slice ta nt tc, .int .i64 tm, .slice ca nc cc, .slice oa no oc, .slice ha nh hc, .int .i64 st] 43)).alloc (.cells #[.slice none 0 0, .int .i64 0] 41)).alloc (.cells #[.nilIface] 96) = W) := hW
 have HSZ : Hid (w.heap.size = sz) := hsz
 have HLE : Hid (w.heap.size ≤ sz) := by show _ ≤ _; omega
 rw [hsz] at HS2
 rw [show (fun e w' => SAY e w' ∧ Below w.heap.size w w') = (fun e w' => SAY e w' ∧ Below sz w w') by rw [hsz]]
 clear hb0 hW hsz
 go_enter_defers Tryz.func45, Tryz.ntmps45
 go_wp2_with fail
 rw [HW.out]
 (try rw [HSZ.out])
 refine (implMachineOk_any wa wc da dc ta tc ca cc oa oc ha hc ⟨nw, ws, nd, ds, nt, ts, tm, nc, f, no, os, nh, hs, st⟩ W (HM.out.1.below HB0.out HLE.out) (HM.out.2.1.below HB0.out HLE.out) HM.out.2.2.1 HM.out.2.2.2).mono ?_
 rintro e w1 ⟨r, ⟨rfl, hr⟩, hb1⟩
 have HR : Hid (r = true ↔ MO) := by show _ ↔ _; rw [← HMO.out]; exact hr
 have BM1 : Hid (Box w1 sz #[.slice wa nw wc, .slice da nd dc, .slice ta nt tc, .int .i64 tm, .slice ca nc cc, .slice oa no oc, .slice ha nh hc, .int .i64 st] 43) := BM.out.below hb1 BM.out.lt
 have BO1 : Hid (Box w1 (sz + 1) #[.slice none 0 0, .int .i64 0] 41) := BO.out.below hb1 BO.out.lt
 have BE1 : Hid (Box w1 (sz + 2) #[.nilIface] 96) := BE.out.below hb1 BE.out.lt
 have HB1 : Hid (Below sz w w1) := HB0.out.trans (hb1.mono (by have := BM.out.lt; omega))
 obtain ⟨z0, z1, z2, z3, z4, z5, z6, z7⟩ := eight_of BM1.out
 clear hr hb1
 rcases r with _ | _
 · have HNO : Hid (¬ MO) := fun h => by have := HR.out.2 h; cases this
   obtain ⟨D, hD⟩ : ∃ D, w1.drew = D := ⟨_, rfl⟩
   have HBD : Hid (Below sz w D) := by rw [← hD]; exact HB1.out.drew
   have BOD : Hid (Box D (sz + 1) #[.slice none 0 0, .int .i64 0] 41) := by rw [← hD]; exact BO1.out.drew
   have BED : Hid (Box D (sz + 2) #[.nilIface] 96) := by rw [← hD]; exact BE1.out.drew
   have HD : Hid (w1.drew = D) := hD
   obtain ⟨D1, hD1⟩ : ∃ D1, (D.setCell ⟨sz + 1, 0, none⟩ (.slice none 0 0)).setCell ⟨sz + 1, 1, none⟩ (.int .i64 0) = D1 := ⟨_, rfl⟩
   have HBD1 : Hid (Below sz w D1) := by rw [← hD1]; exact (HBD.out.setCell (show sz ≤ sz + 1 by omega) _).setCell (show sz ≤ sz + 1 by omega) _
   have BO2 : Hid (Box D1 (sz + 1) #[.slice none 0 0, .int .i64 0] 41) := by rw [← hD1]; exact (BOD.out.put 0 (.slice none 0 0)).put 1 (.int .i64 0)
   have BE2 : Hid (Box D1 (sz + 2) #[.nilIface] 96) := by rw [← hD1]; exact (BED.out.set (q := ⟨sz + 1, 0, none⟩) (show sz + 2 ≠ sz + 1 by omega) (.slice none 0 0)).set (q := ⟨sz + 1, 1, none⟩) (show sz + 2 ≠ sz + 1 by omega) (.int .i64 0)
   have HD1 : Hid ((D.setCell ⟨sz + 1, 0, none⟩ (.slice none 0 0)).setCell ⟨sz + 1, 1, none⟩ (.int .i64 0) = D1) := hD1
   have BO3 := BO2.out.set (q := ⟨sz + 2, 0, none⟩) (show sz + 1 ≠ sz + 2 by omega) (.iface 260 (.pointer (some a0)))
   have BE3 := BE2.out.put 0 (.iface 260 (.pointer (some a0)))
   have HBD2 : Hid (Below sz w (D1.setCell ⟨sz + 2, 0, none⟩ (.iface 260 (.pointer (some a0))))) := HBD1.out.setCell (show sz ≤ sz + 2 by omega) _
   have K0 : Hid (D.cell? ⟨0, 0, none⟩ = some (.iface 260 (.pointer (some a0)))) := (HEX.out.below HBD.out HLE.out).c0
   have K1 : Hid (D1.cell? ⟨0, 0, none⟩ = some (.iface 260 (.pointer (some a0)))) := (HEX.out.below HBD1.out HLE.out).c0
   have K2 : Hid ((D1.setCell ⟨sz + 2, 0, none⟩ (.iface 260 (.pointer (some a0)))).cell? ⟨0, 0, none⟩ = some (.iface 260 (.pointer (some a0)))) := (HEX.out.below HBD2.out HLE.out).c0
   have K9 : Hid (w1.drew.cell? ⟨0, 0, none⟩ = some (.iface 260 (.pointer (some a0)))) := by rw [hD]; exact K0.out
   obtain ⟨d0, d1, _, _⟩ := two_of BO3
   obtain ⟨d2, _⟩ := cellO_of BE3
   have LO : sz + 2 < w1.heap.size := BE1.out.lt
   clear hD hD1 BO3 BE3
   go_wp2_with fail
   refine wp_cut (K := IsAct ⟨#[.agg #[.slice wa nw wc, .slice da nd dc, .slice ta nt tc, .int .i64 tm, .slice ca nc cc, .slice oa no oc, .slice ha nh hc, .int .i64 st], .pointer (some ⟨sz, 0, none⟩), .pointer (some ⟨sz + 1, 0, none⟩), .pointer (some ⟨sz + 1 + 1, 0, none⟩), undef, undef, undef, undef, .agg #[.slice wa nw wc, .slice da nd dc, .slice ta nt tc, .int .i64 tm, .slice ca nc cc, .slice oa no oc, .slice ha nh hc, .int .i64 st], .bool false, .bool true, .agg #[.slice none 0 0, .int .i64 0], .iface 260 (.pointer (some a0)), undef, undef, undef, undef, undef, undef, undef, undef, undef, undef, undef, undef, undef, undef, undef, undef, undef, undef, undef, undef, undef, undef, undef, undef, undef, undef, undef, undef, undef, undef, undef, undef, undef], []⟩ (D1.setCell ⟨sz + 2, 0, none⟩ (.iface 260 (.pointer (some a0))))) ?_ ?_
   · refine wp_region_held_drew (S := fun w' => w'.cell? ⟨0, 0, none⟩ = some (.iface 260 (.pointer (some a0)))) (by kernel_rfl) K9.out (fun hHeld => ?_)
     rw [HD.out] at hHeld ⊢
     obtain ⟨c0, c1, g0, g1⟩ := two_of BOD.out
     have LD : sz + 1 < D.heap.size := BOD.out.lt
     refine takeH 0 (.agg #[.slice none 0 0, .int .i64 0]) ?_ hHeld ?_
     · intro w' hSw; go_simp
     simp only [Act.put, List.setIfInBounds_toArray, List.set_cons_zero, List.set_cons_succ]
     refine takeH 1 (.iface 260 (.pointer (some a0))) ?_ hHeld ?_
     · intro w' hSw; have s0 := hSw; go_simp
     simp only [Act.put, List.setIfInBounds_toArray, List.set_cons_zero, List.set_cons_succ]
     refine wpAnyH_ready (rs := [2]) (by kernel_rfl) (by simp) ?_
     refine AllReadyH.cons (o := _) (by rw [List.getElem?_toArray]; exact rfl) (fun K hK => ?_) AllReadyH.nil
     rw [if_pos (by kernel_rfl)]
     go_simp
     rw [HD1.out]
     refine hK.out _ _ ?_ (fun hHeld => ?_)
     · exact K1.out
     clear hK K c0 c1 g0 g1 LD
     obtain ⟨c2, g2⟩ := cellO_of BE2.out
     have LD : sz + 2 < D1.heap.size := BE2.out.lt
     refine wpAnyH_ready (rs := [3]) (by kernel_rfl) (by simp) ?_
     refine AllReadyH.cons (o := _) (by rw [List.getElem?_toArray]; exact rfl) (fun K hK => ?_) AllReadyH.nil
     rw [if_pos (by kernel_rfl)]
     go_simp
     refine hK.out _ _ ?_ (fun hHeld => ?_)
     · exact K2.out
     clear hK K
     refine wpAnyH_done (by kernel_rfl) ?_ _
     exact ⟨rfl, rfl⟩
   rintro a' w' ⟨rfl, rfl⟩
   go_wp2
   (try simp only [Exit.inBlock, Exit.then])
   refine ⟨_, (by simp [results, Tryz.results45, go_sem, d0, d1, d2]; try rfl), ?_⟩
   exact ⟨HS2.out _ _ (.inr ⟨by rw [HXO.out]; exact HNO.out, rfl⟩), HBD2.out⟩
 have HOK : Hid MO := HR.out.1 (by first | rfl | trivial)
 have hn4 : nh = 4 := by have := HLEN.out HOK.out; omega
 subst hn4
 rcases H2.out.2.2 with h0 | ⟨p, o, rfl, _⟩
 · cases h0
 obtain ⟨sb, hsb⟩ : ∃ sb, w1.heap.size = sb := ⟨_, rfl⟩
 obtain ⟨X, hX⟩ : ∃ X, w1.alloc (.cells #[.bool true] 4) = X := ⟨_, rfl⟩
 have hbx : Below w1.heap.size w1 X := by rw [← hX]; exact (Below.refl _ w1).alloc (Nat.le_refl _) _
 have BS : Hid (Box X sb #[.bool true] 4) := by rw [← hX, ← hsb]; exact box_of w1 _ _
 have BMX : Hid (Box X sz #[.slice wa nw wc, .slice da nd dc, .slice ta nt tc, .int .i64 tm, .slice ca nc cc, .slice oa no oc, .slice (some ⟨p, o, none⟩) 4 hc, .int .i64 st] 43) := BM1.out.below hbx BM1.out.lt
 have BOX : Hid (Box X (sz + 1) #[.slice none 0 0, .int .i64 0] 41) := BO1.out.below hbx BO1.out.lt
 have BEX : Hid (Box X (sz + 2) #[.nilIface] 96) := BE1.out.below hbx BE1.out.lt
 have HBX : Hid (Below sz w X) := HB1.out.trans (hbx.mono (by have := BM1.out.lt; omega))
 have HX : Hid (w1.alloc (.cells #[.bool true] 4) = X) := hX
 have HSB : Hid (w1.heap.size = sb) := hsb
 have LS : sz + 2 < sb := by rw [← hsb]; exact BE1.out.lt
 clear hbx z0 z1 z2 z3 z4 z5 z6 z7
 obtain ⟨z0, z1, z2, z3, z4, z5, z6, z7⟩ := eight_of BMX.out
 go_wp2_with fail
 (try rw [HX.out])
 (try rw [HSB.out])
 clear hX hsb
 refine (rowsAnew_o st (some ⟨p, o, none⟩) 4 hc hs X (H2.out.below HBX.out HLE.out) (fun h => by cases h)).mono ?_
 rintro e w2 ⟨v, rfl, hown, hb2⟩
 obtain ⟨va, vc, rfl, _⟩ := owns_slice hown
 obtain ⟨g, rfl⟩ := owns_four hown
 have hg := own_base hown
 have BM2 : Hid (Box w2 sz #[.slice wa nw wc, .slice da nd dc, .slice ta nt tc, .int .i64 tm, .slice ca nc cc, .slice oa no oc, .slice (some ⟨p, o, none⟩) 4 hc, .int .i64 st] 43) := BMX.out.below hb2 BMX.out.lt
 have BO2 : Hid (Box w2 (sz + 1) #[.slice none 0 0, .int .i64 0] 41) := BOX.out.below hb2 BOX.out.lt
 have BE2 : Hid (Box w2 (sz + 2) #[.nilIface] 96) := BEX.out.below hb2 BEX.out.lt
 have BS2 : Hid (Box w2 sb #[.bool true] 4) := BS.out.below hb2 BS.out.lt
 have HB2 : Hid (Below sz w w2) := HBX.out.trans (hb2.mono (by have := BMX.out.lt; omega))
 have LX : sb < X.heap.size := BS.out.lt
 have hne : (Value.slice (some ⟨g, 0, none⟩) 4 vc).ownBlock ≠ some (sz + 1) := fun h => by have h2 : g = sz + 1 := Option.some.inj h; omega
 obtain ⟨W3, hW3⟩ : ∃ W3, (w2.setCell ⟨sz + 1, 0, none⟩ (.slice (some ⟨g, 0, none⟩) 4 vc)).setCell ⟨sz + 1, 1, none⟩ (.int .i64 st) = W3 := ⟨_, rfl⟩
 have ST0 : Hid (RiSt w sz sb #[.slice wa nw wc, .slice da nd dc, .slice ta nt tc, .int .i64 tm, .slice ca nc cc, .slice oa no oc, .slice (some ⟨p, o, none⟩) 4 hc, .int .i64 st] MX rs 0 true W3 g vc hs st) := by
   rw [← hW3]
   exact ⟨(BM2.out.set (show sz ≠ sz + 1 by omega) _).set (show sz ≠ sz + 1 by omega) _, (BO2.out.put 0 _).put 1 _, (BE2.out.set (show sz + 2 ≠ sz + 1 by omega) _).set (show sz + 2 ≠ sz + 1 by omega) _, (BS2.out.set (show sb ≠ sz + 1 by omega) _).set (show sb ≠ sz + 1 by omega) _, own_weaken (own_setCell_far (own_setCell_far hown hne _) hne _) (by omega), by omega, HR0.out, by simp [SoM], (HB2.out.setCell (show sz ≤ sz + 1 by omega) _).setCell (show sz ≤ sz + 1 by omega) _, LS⟩
 have HW3 : Hid ((w2.setCell ⟨sz + 1, 0, none⟩ (.slice (some ⟨g, 0, none⟩) 4 vc)).setCell ⟨sz + 1, 1, none⟩ (.int .i64 st) = W3) := hW3
 obtain ⟨r0, r1, f0, f1⟩ := two_of BO2.out
 have LO2 : sz + 1 < w2.heap.size := BO2.out.lt
 clear hown hb2 hg hne hW3 z0 z1 z2 z3 z4 z5 z6 z7 LX
 go_upto_region 6 with (fail)
 rw [HW3.out]
 clear HW3 r0 r1 f0 f1 LO2
 obtain ⟨z0, z1, z2, z3, z4, z5, z6, z7⟩ := eight_of ST0.out.m
 go_wp2
 go_loopw [20] (fun i wr => ∃ k B g c zs st', k ≤ no ∧ i = .int .i64 ((k : Nat) : Int) ∧ RiSt w sz sb #[.slice wa nw wc, .slice da nd dc, .slice ta nt tc, .int .i64 tm, .slice ca nc cc, .slice oa no oc, .slice (some ⟨p, o, none⟩) 4 hc, .int .i64 st] MX rs k B wr g c zs st') (fun i _ => no - (intOf i).toNat)
 case atStart => exact ⟨0, true, g, vc, hs, st, Nat.zero_le _, rfl, ST0.out⟩
 case round =>
   clear ST0 z0 z1 z2 z3 z4 z5 z6 z7
   obtain ⟨k, B, g, c, zs, st', hk, rfl, hST⟩ := hrel
   have ST : Hid (RiSt w sz sb #[.slice wa nw wc, .slice da nd dc, .slice ta nt tc, .int .i64 tm, .slice ca nc cc, .slice oa no oc, .slice (some ⟨p, o, none⟩) 4 hc, .int .i64 st] MX rs k B wr g c zs st') := hST
   have LT := hST.lt
   have LR : sb < wr.heap.size := hST.s.lt
   have LM : sz < wr.heap.size := hST.m.lt
   obtain ⟨z0, z1, z2, z3, z4, z5, z6, z7⟩ := eight_of hST.m
   obtain ⟨r0, r1, f0, f1⟩ := two_of hST.r
   obtain ⟨c2, g2⟩ := cellO_of hST.err
   obtain ⟨s0, s1⟩ := cellO_of hST.s
   clear hST
   by_cases hlt : k < no
   case neg =>
     obtain rfl : no = k := by omega
     have LO : sz + 2 < wr.heap.size := by omega
     have BR2 := ((ST.out.r.put 0 (.slice (some ⟨g, 0, none⟩) 4 c)).put 1 (.int .i64 st')).set (q := ⟨sz + 2, 0, none⟩) (show sz + 1 ≠ sz + 2 by omega) .nilIface
     have BE2 := ((ST.out.err.set (q := ⟨sz + 1, 0, none⟩) (show sz + 2 ≠ sz + 1 by omega) (.slice (some ⟨g, 0, none⟩) 4 c)).set (q := ⟨sz + 1, 1, none⟩) (show sz + 2 ≠ sz + 1 by omega) (.int .i64 st')).put 0 .nilIface
     have BS2 := ((ST.out.s.set (q := ⟨sz + 1, 0, none⟩) (show sb ≠ sz + 1 by omega) (.slice (some ⟨g, 0, none⟩) 4 c)).set (q := ⟨sz + 1, 1, none⟩) (show sb ≠ sz + 1 by omega) (.int .i64 st')).set (q := ⟨sz + 2, 0, none⟩) (show sb ≠ sz + 2 by omega) .nilIface
     obtain ⟨W6, hW6⟩ : ∃ W6, ((wr.setCell ⟨sz + 1, 0, none⟩ (.slice (some ⟨g, 0, none⟩) 4 c)).setCell ⟨sz + 1, 1, none⟩ (.int .i64 st')).setCell ⟨sz + 2, 0, none⟩ .nilIface = W6 := ⟨_, rfl⟩
     have hgo := own_base ST.out.own
     have hne : (Value.slice (some ⟨g, 0, none⟩) 4 c).ownBlock ≠ some (sz + 1) := fun h => by have h2 : g = sz + 1 := Option.some.inj h; omega
     have hne2 : (Value.slice (some ⟨g, 0, none⟩) 4 c).ownBlock ≠ some (sz + 2) := fun h => by have h2 : g = sz + 2 := Option.some.inj h; omega
     have OW6 : Hid (W6.ownsRow (sz + 3) 3 1 (.slice (some ⟨g, 0, none⟩) 4 c) 4 (zs.map I)) := by rw [← hW6]; exact own_setCell_far (own_setCell_far (own_setCell_far ST.out.own hne _) hne _) hne2 _
     have HB6 : Hid (Below sz w W6) := by rw [← hW6]; exact ((ST.out.blw.setCell (show sz ≤ sz + 1 by omega) _).setCell (show sz ≤ sz + 1 by omega) _).setCell (show sz ≤ sz + 2 by omega) _
     have BR6 : Hid (Box W6 (sz + 1) #[.slice (some ⟨g, 0, none⟩) 4 c, .int .i64 st'] 41) := by rw [← hW6]; exact BR2
     have BE6 : Hid (Box W6 (sz + 2) #[.nilIface] 96) := by rw [← hW6]; exact BE2
     have BS6 : Hid (Box W6 sb #[.bool B] 4) := by rw [← hW6]; exact BS2
     have HW6 : Hid (((wr.setCell ⟨sz + 1, 0, none⟩ (.slice (some ⟨g, 0, none⟩) 4 c)).setCell ⟨sz + 1, 1, none⟩ (.int .i64 st')).setCell ⟨sz + 2, 0, none⟩ .nilIface = W6) := hW6
     have HE6 : Hid (ErrX W6 a0 a1) := HEX.out.below HB6.out HLE.out
     clear BR2 BE2 BS2 hW6 hgo hne hne2
     go_wp2
     (try simp only [Exit.inBlock, Exit.then])
     rw [HW6.out]
     refine leaves_cons (f := 83) (args := #[.pointer (some ⟨sb, 0, none⟩), .pointer (some ⟨sz + 2, 0, none⟩)]) (by simp) (by simp [go_sem]) ?_
     obtain ⟨d0, d1, _, _⟩ := two_of BR6.out
     obtain ⟨d2, d3⟩ := cellO_of BE6.out
     obtain ⟨d4, _⟩ := cellO_of BS6.out
     rcases B with _ | _
     · refine (replay_not ⟨sb, 0, none⟩ ⟨sz + 2, 0, none⟩ .returning a1 W6 d4 HE6.out.c1 d2 d3).mono ?_
       rintro e u' w'' ⟨rfl, rfl, rfl⟩
       obtain ⟨d5, d6, _, _⟩ := two_of (BR6.out.set (q := ⟨sz + 2, 0, none⟩) (show sz + 1 ≠ sz + 2 by omega) (.iface 260 (.pointer (some a1))))
       obtain ⟨d7, _⟩ := cellO_of (BE6.out.put 0 (.iface 260 (.pointer (some a1))))
       refine ⟨_, (by simp [results, Tryz.results45, go_sem, d5, d6, d7]; try rfl), ?_⟩
       have hgo := own_base OW6.out
       have hne2 : (Value.slice (some ⟨g, 0, none⟩) 4 c).ownBlock ≠ some (sz + 2) := fun h => by have h2 : g = sz + 2 := Option.some.inj h; omega
       refine ⟨HS2.out _ _ (.inl ⟨by rw [HXO.out]; exact HOK.out, g, c, zs, st', false, rfl, ?_, ?_, own_weaken (own_setCell_far OW6.out hne2 _) (by omega)⟩), HB6.out.setCell (show sz ≤ sz + 2 by omega) _⟩
       · rw [HF.out.2.2]; exact ST.out.rep
       · rw [HF.out.2.2]; exact ST.out.so
     · refine (replay_told ⟨sb, 0, none⟩ ⟨sz + 2, 0, none⟩ .returning W6 d4).mono ?_
       rintro e u' w'' ⟨rfl, rfl, rfl⟩
       refine ⟨_, (by simp [results, Tryz.results45, go_sem, d0, d1, d2]; try rfl), ?_⟩
       refine ⟨HS2.out _ _ (.inl ⟨by rw [HXO.out]; exact HOK.out, g, c, zs, st', true, rfl, ?_, ?_, own_weaken OW6.out (by omega)⟩), HB6.out⟩
       · rw [HF.out.2.2]; exact ST.out.rep
       · rw [HF.out.2.2]; exact ST.out.so
   have hk0 : (0 : Int) ≤ (k : Int) := by omega
   have hk1 : (k : Int) < (no : Int) := by omega
   have hO := HORD.out HOK.out k hlt
   have hin := inB_val hO.1
   rcases H1.out.2.2 with h0 | ⟨p2, o2, rfl, q2⟩
   · omega
   have eo' := q2 k hlt
   have eo : wr.cell? ⟨p2, o2 + k, none⟩ = _ := (ST.out.blw.cell (Nat.lt_of_lt_of_le (World.block_lt_of_cell? w _ eo') HLE.out)).trans eo'
   have HCN : Hid (calN MX k = (os.getD k 0).toNat) := by show (MX.os.getD k 0).toNat = _; rw [HF.out.2.1]
   obtain ⟨n, hn⟩ : ∃ n, os.getD k 0 = n := ⟨_, rfl⟩
   rw [hn] at hin eo HCN
   have hn0 : 0 ≤ n := by omega
   have hn1 : n < (nc : Int) := by omega
   rcases HCR.out with h0 | ⟨p1, o1, rfl, g3⟩
   · omega
   obtain ⟨ra, rn, rc, hcc, hres⟩ := g3 n.toNat (by omega)
   obtain ⟨e0, e1, e2, e3, e4, e5, e6, e7, e8⟩ := hcc.below ST.out.blw HLE.out
   obtain ⟨L, hL⟩ : ∃ L, rs n.toNat = L := ⟨_, rfl⟩
   obtain ⟨C, hC⟩ : ∃ C, f n.toNat = C := ⟨_, rfl⟩
   have HCC : Hid (MX.f (calN MX k) = C ∧ rs (calN MX k) = L) := by rw [HCN.out, HF.out.1]; exact ⟨hC, hL⟩
   rw [hL] at hres
   rw [hC] at e0 e1 e2 e3 e4 e5 e6 e7
   obtain ⟨x0, x1, x2, x3, x4, x5, x6, x7⟩ := C
   dsimp only at e0 e1 e2 e3 e4 e5 e6 e7
   have HRES : Hid (IntAt w ra rn L) := hres
   have HAW : Hid (AlwJ MX rs k zs st' ↔ AllowM zs st' x1 x2 x3 x7 L) := by show AllowM _ _ _ _ _ _ _ ↔ _; rw [HCC.out.1, HCC.out.2]
   have HAF : Hid (∀ ys s, AfterM zs st' x1 x2 x3 x7 L ys s → ReplM MX rs (k + 1) ys s) := fun ys s h => ⟨zs, st', ST.out.rep, by rw [HCC.out.1, HCC.out.2]; exact h⟩
   have HWF : Hid (∀ x ∈ zs, (Lit.int .i64 x).wf = true) := rowsR_wf (HROK.out HOK.out _ _ _ ST.out.rep)
   have HRM : Hid (4 ≤ c) := rowsR_room ST.out.own
   obtain ⟨q, hq⟩ : ∃ q, wr.heap.size = q := ⟨_, rfl⟩
   obtain ⟨X, hX⟩ : ∃ X, wr.alloc (.cells #[.int .i64 x0, .int .i64 x1, .int .i64 x2, .int .i64 x3, .int .i64 x4, .int .i64 x5, .int .i64 x6, .int .i64 x7, .slice ra rn rc] 84) = X := ⟨_, rfl⟩
   have hbx : Below wr.heap.size wr X := by rw [← hX]; exact (Below.refl _ wr).alloc (Nat.le_refl _) _
   have BCX : Hid (Box X q #[.int .i64 x0, .int .i64 x1, .int .i64 x2, .int .i64 x3, .int .i64 x4, .int .i64 x5, .int .i64 x6, .int .i64 x7, .slice ra rn rc] 84) := by rw [← hX, ← hq]; exact box_of wr _ _
   have STX : Hid (RiSt w sz sb #[.slice wa nw wc, .slice da nd dc, .slice ta nt tc, .int .i64 tm, .slice (some ⟨p1, o1, none⟩) nc cc, .slice (some ⟨p2, o2, none⟩) no oc, .slice (some ⟨p, o, none⟩) 4 hc, .int .i64 st] MX rs k B X g c zs st') := ⟨ST.out.m.below hbx LM, ST.out.r.below hbx ST.out.r.lt, ST.out.err.below hbx ST.out.err.lt, ST.out.s.below hbx LR, owns_below ST.out.own hbx (Nat.le_refl _), ST.out.far, ST.out.rep, ST.out.so, ST.out.blw.trans (hbx.mono (by omega)), LT⟩
   have HX : Hid (wr.alloc (.cells #[.int .i64 x0, .int .i64 x1, .int .i64 x2, .int .i64 x3, .int .i64 x4, .int .i64 x5, .int .i64 x6, .int .i64 x7, .slice ra rn rc] 84) = X) := hX
   have HQ : Hid (wr.heap.size = q) := hq
   have LQ : sb < q := by rw [← hq]; exact LR
   clear g3 q2 hO hin hC hL hn hres HCC HCN hcc eo' hbx hX hq
   go_upto_region 10 with (fail)
   rw [HX.out]
   (try rw [HQ.out])
   clear HX HQ ST z0 z1 z2 z3 z4 z5 z6 z7 e0 e1 e2 e3 e4 e5 e6 e7 e8 eo r0 r1 f0 f1 c2 g2 s0 s1 LR LM
   obtain ⟨u0, u1, u2, u3, u4, u5, u6, u7, u8⟩ := nine_of BCX.out
   obtain ⟨r0, r1, f0, f1⟩ := two_of STX.out.r
   obtain ⟨s0, s1⟩ := cellO_of STX.out.s
   have LSX : sb < X.heap.size := STX.out.s.lt
   rcases B with _ | _
   · have ST1 : Hid (RiSt w sz sb #[.slice wa nw wc, .slice da nd dc, .slice ta nt tc, .int .i64 tm, .slice (some ⟨p1, o1, none⟩) nc cc, .slice (some ⟨p2, o2, none⟩) no oc, .slice (some ⟨p, o, none⟩) 4 hc, .int .i64 st] MX rs k false X g c zs st') := STX.out
     have BC1 : Hid (Box X q #[.int .i64 x0, .int .i64 x1, .int .i64 x2, .int .i64 x3, .int .i64 x4, .int .i64 x5, .int .i64 x6, .int .i64 x7, .slice ra rn rc] 84) := BCX.out
     obtain ⟨Y, hY⟩ : ∃ Y, X.setCell ⟨sb, 0, none⟩ (.bool false) = Y := ⟨_, rfl⟩
     have BCY : Hid (Box Y q #[.int .i64 x0, .int .i64 x1, .int .i64 x2, .int .i64 x3, .int .i64 x4, .int .i64 x5, .int .i64 x6, .int .i64 x7, .slice ra rn rc] 84) := by rw [← hY]; exact BC1.out.set (show q ≠ sb by omega) _
     have BMY : Hid (Box Y sz #[.slice wa nw wc, .slice da nd dc, .slice ta nt tc, .int .i64 tm, .slice (some ⟨p1, o1, none⟩) nc cc, .slice (some ⟨p2, o2, none⟩) no oc, .slice (some ⟨p, o, none⟩) 4 hc, .int .i64 st] 43) := by rw [← hY]; exact ST1.out.m.set (show sz ≠ sb by omega) _
     have BRY : Hid (Box Y (sz + 1) #[.slice (some ⟨g, 0, none⟩) 4 c, .int .i64 st'] 41) := by rw [← hY]; exact ST1.out.r.set (show sz + 1 ≠ sb by omega) _
     have BEY : Hid (Box Y (sz + 2) #[.nilIface] 96) := by rw [← hY]; exact ST1.out.err.set (show sz + 2 ≠ sb by omega) _
     have BSY : Hid (Box Y sb #[.bool false] 4) := by rw [← hY]; exact ST1.out.s.put 0 _
     have OWY : Hid (Y.ownsRow (sz + 3) 3 1 (.slice (some ⟨g, 0, none⟩) 4 c) 4 (zs.map I)) := by
       have hneY : (Value.slice (some ⟨g, 0, none⟩) 4 c).ownBlock ≠ some sb := fun h => ST1.out.far (Option.some.inj h)
       rw [← hY]
       exact own_setCell_far ST1.out.own hneY _
     have HBY : Hid (Below sz w Y) := by rw [← hY]; exact ST1.out.blw.setCell (show sz ≤ sb by omega) _
     have HY : Hid (X.setCell ⟨sb, 0, none⟩ (.bool false) = Y) := hY
     clear hY
     go_upto_region 11 with (fail)
     rw [HY.out]
     clear HY u0 u1 u2 u3 u4 u5 u6 u7 u8 r0 r1 f0 f1 s0 s1 LSX
     obtain ⟨u0, u1, u2, u3, u4, u5, u6, u7, u8⟩ := nine_of BCY.out
     obtain ⟨r0, r1, f0, f1⟩ := two_of BRY.out
     go_wp2_with fail
     refine (implAfter_room ra g 0 4 c rn rc st' x1 x2 x3 x7 zs L Y HRM.out (intAt_own OWY.out) (HRES.out.below HBY.out HLE.out) HWF.out).mono ?_
     rintro e w5 ⟨⟨ys, s5, a5, c5, rfl, hAf, hown5⟩, hb5⟩
     obtain ⟨g5, rfl⟩ := owns_four hown5
     have hg5 := own_base hown5
     have LY : sb < Y.heap.size := BSY.out.lt
     have BM5 := BMY.out.below hb5 BMY.out.lt
     have BR5 := BRY.out.below hb5 BRY.out.lt
     have BE5 := BEY.out.below hb5 BEY.out.lt
     have BS5 := BSY.out.below hb5 LY
     have L5 : sz + 1 < w5.heap.size := BR5.lt
     have hne : (Value.slice (some ⟨g5, 0, none⟩) 4 c5).ownBlock ≠ some (sz + 1) := fun h => by have h2 : g5 = sz + 1 := Option.some.inj h; omega
     have ST5 : Hid (RiSt w sz sb #[.slice wa nw wc, .slice da nd dc, .slice ta nt tc, .int .i64 tm, .slice (some ⟨p1, o1, none⟩) nc cc, .slice (some ⟨p2, o2, none⟩) no oc, .slice (some ⟨p, o, none⟩) 4 hc, .int .i64 st] MX rs (k + 1) false ((w5.setCell ⟨sz + 1, 0, none⟩ (.slice (some ⟨g5, 0, none⟩) 4 c5)).setCell ⟨sz + 1, 1, none⟩ (.int .i64 s5)) g5 c5 ys s5) :=
       ⟨(BM5.set (show sz ≠ sz + 1 by omega) _).set (show sz ≠ sz + 1 by omega) _, (BR5.put 0 _).put 1 _, (BE5.set (show sz + 2 ≠ sz + 1 by omega) _).set (show sz + 2 ≠ sz + 1 by omega) _, (BS5.set (show sb ≠ sz + 1 by omega) _).set (show sb ≠ sz + 1 by omega) _, own_weaken (own_setCell_far (own_setCell_far hown5 hne _) hne _) (by omega), by omega, HAF.out _ _ hAf, by rw [SoM.succ ST1.out.rep]; exact ⟨(fun h => by cases h), fun h => ST1.out.so.2 h.1⟩, ((HBY.out.trans (hb5.mono (by omega))).setCell (show sz ≤ sz + 1 by omega) _).setCell (show sz ≤ sz + 1 by omega) _, LT⟩
     clear u0 u1 u2 u3 u4 u5 u6 u7 u8 r0 r1 f0 f1
     obtain ⟨r0, r1, f0, f1⟩ := two_of BR5
     clear hAf hown5 hb5 hg5 BM5 BR5 BE5 BS5 hne
     go_wp2
     exact ⟨⟨k + 1, false, g5, c5, ys, s5, by omega, by go_num, ST5.out⟩, by simp [intOf]; omega⟩
   · go_wp2_with fail
     refine (implAllowed_room g 0 4 c rn rc ra st' x1 x2 x3 x7 zs L X HRM.out (intAt_own STX.out.own) (HRES.out.below STX.out.blw HLE.out) HWF.out).mono ?_
     rintro e w4 ⟨⟨ok, rfl, hok⟩, hb4⟩
     have HOKK : Hid (ok = true ↔ AllowM zs st' x1 x2 x3 x7 L) := hok
     have BC1 : Hid (Box w4 q #[.int .i64 x0, .int .i64 x1, .int .i64 x2, .int .i64 x3, .int .i64 x4, .int .i64 x5, .int .i64 x6, .int .i64 x7, .slice ra rn rc] 84) := BCX.out.below hb4 BCX.out.lt
     have ST1 : Hid (RiSt w sz sb #[.slice wa nw wc, .slice da nd dc, .slice ta nt tc, .int .i64 tm, .slice (some ⟨p1, o1, none⟩) nc cc, .slice (some ⟨p2, o2, none⟩) no oc, .slice (some ⟨p, o, none⟩) 4 hc, .int .i64 st] MX rs k true w4 g c zs st') := ⟨STX.out.m.below hb4 STX.out.m.lt, STX.out.r.below hb4 STX.out.r.lt, STX.out.err.below hb4 STX.out.err.lt, STX.out.s.below hb4 LSX, owns_below STX.out.own hb4 (Nat.le_refl _), STX.out.far, STX.out.rep, STX.out.so, STX.out.blw.trans (hb4.mono (by omega)), LT⟩
     clear hok hb4 u0 u1 u2 u3 u4 u5 u6 u7 u8 r0 r1 f0 f1 s0 s1 LSX
     obtain ⟨u0, u1, u2, u3, u4, u5, u6, u7, u8⟩ := nine_of BC1.out
     obtain ⟨r0, r1, f0, f1⟩ := two_of ST1.out.r
     obtain ⟨s0, s1⟩ := cellO_of ST1.out.s
     have LSX : sb < w4.heap.size := ST1.out.s.lt
     have HSO : Hid (ok = true ↔ SoM MX rs (k + 1)) := by
       show _ ↔ _
       rw [SoM.succ ST1.out.rep, HAW.out, HOKK.out]
       exact ⟨fun h => ⟨ST1.out.so.1 rfl, h⟩, fun h => h.2⟩
     obtain ⟨Y, hY⟩ : ∃ Y, w4.setCell ⟨sb, 0, none⟩ (.bool ok) = Y := ⟨_, rfl⟩
     have BCY : Hid (Box Y q #[.int .i64 x0, .int .i64 x1, .int .i64 x2, .int .i64 x3, .int .i64 x4, .int .i64 x5, .int .i64 x6, .int .i64 x7, .slice ra rn rc] 84) := by rw [← hY]; exact BC1.out.set (show q ≠ sb by omega) _
     have BMY : Hid (Box Y sz #[.slice wa nw wc, .slice da nd dc, .slice ta nt tc, .int .i64 tm, .slice (some ⟨p1, o1, none⟩) nc cc, .slice (some ⟨p2, o2, none⟩) no oc, .slice (some ⟨p, o, none⟩) 4 hc, .int .i64 st] 43) := by rw [← hY]; exact ST1.out.m.set (show sz ≠ sb by omega) _
     have BRY : Hid (Box Y (sz + 1) #[.slice (some ⟨g, 0, none⟩) 4 c, .int .i64 st'] 41) := by rw [← hY]; exact ST1.out.r.set (show sz + 1 ≠ sb by omega) _
     have BEY : Hid (Box Y (sz + 2) #[.nilIface] 96) := by rw [← hY]; exact ST1.out.err.set (show sz + 2 ≠ sb by omega) _
     have BSY : Hid (Box Y sb #[.bool ok] 4) := by rw [← hY]; exact ST1.out.s.put 0 _
     have OWY : Hid (Y.ownsRow (sz + 3) 3 1 (.slice (some ⟨g, 0, none⟩) 4 c) 4 (zs.map I)) := by
       have hneY : (Value.slice (some ⟨g, 0, none⟩) 4 c).ownBlock ≠ some sb := fun h => ST1.out.far (Option.some.inj h)
       rw [← hY]
       exact own_setCell_far ST1.out.own hneY _
     have HBY : Hid (Below sz w Y) := by rw [← hY]; exact ST1.out.blw.setCell (show sz ≤ sb by omega) _
     have HY : Hid (w4.setCell ⟨sb, 0, none⟩ (.bool ok) = Y) := hY
     clear hY
     go_upto_region 11 with (fail)
     rw [HY.out]
     clear HY u0 u1 u2 u3 u4 u5 u6 u7 u8 r0 r1 f0 f1 s0 s1 LSX
     obtain ⟨u0, u1, u2, u3, u4, u5, u6, u7, u8⟩ := nine_of BCY.out
     obtain ⟨r0, r1, f0, f1⟩ := two_of BRY.out
     go_wp2_with fail
     refine (implAfter_room ra g 0 4 c rn rc st' x1 x2 x3 x7 zs L Y HRM.out (intAt_own OWY.out) (HRES.out.below HBY.out HLE.out) HWF.out).mono ?_
     rintro e w5 ⟨⟨ys, s5, a5, c5, rfl, hAf, hown5⟩, hb5⟩
     obtain ⟨g5, rfl⟩ := owns_four hown5
     have hg5 := own_base hown5
     have LY : sb < Y.heap.size := BSY.out.lt
     have BM5 := BMY.out.below hb5 BMY.out.lt
     have BR5 := BRY.out.below hb5 BRY.out.lt
     have BE5 := BEY.out.below hb5 BEY.out.lt
     have BS5 := BSY.out.below hb5 LY
     have L5 : sz + 1 < w5.heap.size := BR5.lt
     have hne : (Value.slice (some ⟨g5, 0, none⟩) 4 c5).ownBlock ≠ some (sz + 1) := fun h => by have h2 : g5 = sz + 1 := Option.some.inj h; omega
     have ST5 : Hid (RiSt w sz sb #[.slice wa nw wc, .slice da nd dc, .slice ta nt tc, .int .i64 tm, .slice (some ⟨p1, o1, none⟩) nc cc, .slice (some ⟨p2, o2, none⟩) no oc, .slice (some ⟨p, o, none⟩) 4 hc, .int .i64 st] MX rs (k + 1) ok ((w5.setCell ⟨sz + 1, 0, none⟩ (.slice (some ⟨g5, 0, none⟩) 4 c5)).setCell ⟨sz + 1, 1, none⟩ (.int .i64 s5)) g5 c5 ys s5) :=
       ⟨(BM5.set (show sz ≠ sz + 1 by omega) _).set (show sz ≠ sz + 1 by omega) _, (BR5.put 0 _).put 1 _, (BE5.set (show sz + 2 ≠ sz + 1 by omega) _).set (show sz + 2 ≠ sz + 1 by omega) _, (BS5.set (show sb ≠ sz + 1 by omega) _).set (show sb ≠ sz + 1 by omega) _, own_weaken (own_setCell_far (own_setCell_far hown5 hne _) hne _) (by omega), by omega, HAF.out _ _ hAf, HSO.out, ((HBY.out.trans (hb5.mono (by omega))).setCell (show sz ≤ sz + 1 by omega) _).setCell (show sz ≤ sz + 1 by omega) _, LT⟩
     clear u0 u1 u2 u3 u4 u5 u6 u7 u8 r0 r1 f0 f1
     obtain ⟨r0, r1, f0, f1⟩ := two_of BR5
     clear hAf hown5 hb5 hg5 BM5 BR5 BE5 BS5 hne
     go_wp2
     exact ⟨⟨k + 1, ok, g5, c5, ys, s5, by omega, by go_num, ST5.out⟩, by simp [intOf]; omega⟩
end
end Go.Proofs.YtbfolanfbagofaaGreatDoor
