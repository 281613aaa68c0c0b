/- Texts joined: InvReg, ResN, SpecTh, SpecCa, SpecCs, SpecTo, OpenDesc, Descs, Descs2, OpenW, LawMem, MemO, CloneO, AnewR. -/
import Derived.Test.YtecheopkfhfgkaaTO02
import Derived.Deep.RegionHeld3
import Derived.Maps.AppendAt
import Derived.Laws.AppendOwnNone
import Derived.Test.YtecheopkfhfgkaaTO03
import Derived.Test.YtecheopkfhfgkaaTO01
import Derived.Test.YtecheopkfhfgkaaTO04
import Derived.OpenShut
import Derived.ChangeOld
import Derived.Lib.SmallJoins
import Derived.Lib.LazyBuf
set_option maxHeartbeats 8000000
set_option maxRecDepth 100000
namespace Go.Proofs.Ytecheopkfhfgkaa
section
open Go.ChangeShapes Go.WideShapes Go.ChangeAt Go.RowKit
section
variable {P : Program} {ops : Array Oper} {Q : Exit → Act → World → Prop} {S : World → Prop} {R : Array Bool → Act → World → Prop} {z : Nat}
def StepAll (P : Program) (ops : Array Oper) (Q : Exit → Act → World → Prop) (R : Array Bool → Act → World → Prop) (rs : List Nat) : Prop :=
 ∀ i ∈ rs, ∀ l a w, R l a w → l.getD i true = false → (∀ o, ops[i]? = some o → ∀ e ∈ o.after, Region.binds .any e = true → l.getD e.on false = true) → wpOp P ops Q i (fun a' w' => R (l.setIfInBounds i true) a' w') a w
theorem StepAll.nil : StepAll P ops Q R [] := fun _ h => by cases h
theorem StepAll.skip {i : Nat} {rs : List Nat} (h : ∀ l a w, R l a w → l.getD i true = true) (hs : StepAll P ops Q R rs) : StepAll P ops Q R (i :: rs) := fun j hj => by
 rcases List.mem_cons.1 hj with rfl | hj
 · intro l a w hR hf _
   rw [h l a w hR] at hf
   cases hf
 · exact hs j hj
theorem StepAll.cons {i : Nat} {o : Oper} {rs : List Nat} (ho : ops[i]? = some o)
   (h : ∀ (K : Act → World → Prop) l a w, R l a w → l.getD i true = false → (∀ e ∈ o.after, Region.binds .any e = true → l.getD e.on false = true) → Shut (∀ a' w', R (l.setIfInBounds i true) a' w' → K a' w') →
     if Region.wanted o (yielded ops a.tmps) = true then Oper.wp P o a w K Q else K (a.put o.dst undef) w)
   (hs : StepAll P ops Q R rs) : StepAll P ops Q R (i :: rs) := fun j hj => by
 rcases List.mem_cons.1 hj with rfl | hj
 · intro l a w hR hf he
   exact wpOp_step ho fun K hK => h K l a w hR hf (he o ho) (fun a' w' h' => hK a' w' h')
 · exact hs j hj
def upward (ops : Array Oper) : Bool := (List.range ops.size).all fun i => ((ops[i]?).map (fun o => o.after.all fun e => !Region.binds .any e || decide (e.on < i))).getD true
def unlisted (l : Array Bool) : Nat := l.toList.count false
theorem getD_set_self {l : Array Bool} {i : Nat} (h : i < l.size) : (l.setIfInBounds i true).getD i false = true := by simp [Array.getD_eq_getD_getElem?, h]
def closedB (ops : Array Oper) (l : Array Bool) : Bool := (List.range ops.size).all fun i => !l.getD i false || ((ops[i]?).map (fun o => o.after.all fun e => !Region.binds .any e || l.getD e.on false)).getD true
def Closed (ops : Array Oper) (l : Array Bool) : Prop := ∀ i o, ops[i]? = some o → l.getD i false = true → ∀ e ∈ o.after, Region.binds .any e = true → l.getD e.on false = true
theorem getD_mono {l : Array Bool} {i j : Nat} (h : l.getD j false = true) : (l.setIfInBounds i true).getD j false = true := by
 by_cases hij : i = j
 · subst hij
   have hi : i < l.size := by
     rcases Nat.lt_or_ge i l.size with h1 | h1
     · exact h1
     · rw [Array.getD_eq_getD_getElem?, Array.getElem?_eq_none h1] at h; cases h
   exact getD_set_self hi
 · rw [getD_set_ne false hij]; exact h
theorem Closed.step {l : Array Bool} {i : Nat} {o : Oper} (h : Closed ops l) (ho : ops[i]? = some o) (he : ∀ e ∈ o.after, Region.binds .any e = true → l.getD e.on false = true) : Closed ops (l.setIfInBounds i true) := by
 intro j oj hoj hl e hej hb
 by_cases hij : i = j
 · subst hij
   rw [ho] at hoj
   cases hoj
   exact getD_mono (he e hej hb)
 · rw [getD_set_ne false hij] at hl
   exact getD_mono (h j oj hoj hl e hej hb)
def edgeB (ops : Array Oper) (j i : Nat) : Bool := ((ops[j]?).map (fun o => o.after.any fun e => Region.binds .any e && e.on == i)).getD false
def waits (ops : Array Oper) (z : Nat) : Bool := (List.range ops.size).all fun i => i == z || edgeB ops z i || (List.range ops.size).any fun j => edgeB ops z j && edgeB ops j i
end
theorem wp_append_any {P : Program} {o : Oper} {a : Act} (w : World) {K : Act → World → Prop} {Q : Exit → Act → World → Prop} (s x : Operand) (t : TypeId)
   (ho : o.op = .call { callee := .builtin .append, args := #[s, x], argTypes := #[t, t] })
   (base : Nat) (e : TypeId) (i : TypeInfo) (z : Value) (size bytes : Nat) (ht : P.underlying t = some (.slice e)) (hi : P.info? e = some i) (hz : i.zero = some z)
   (hsize : i.size = size) (hby : i.bytes = bytes) (hzs : z.cells.size = size) (hsz : 0 < size)
   (v : Value) (n : Nat) (xs : List Value) (hs : a.eval s = v) (hown : w.ownsRow base e size v n xs)
   (ad : Option Addr) (m c : Nat) (fs : List Int) (hx : a.eval x = .slice ad m c) (hc : ad = none → c = 0) (hA : KAt size w ad m fs)
   (h63 : n + m ≤ maxLen) (hbytes : (n + m) * bytes ≤ 140737488355328) (hbase : base ≤ w.heap.size)
   (h : ∀ v' w', w'.ownsRow base e size v' (n + m) (xs ++ fs.map I) → w.grownBy w' v.ownBlock → (v'.ownBlock = v.ownBlock ∨ v'.ownBlock = some w.heap.size) → K (a.put o.dst v') w') :
   Oper.wp P o a w K Q := by
 cases ad with
 | none =>
   obtain ⟨rfl, rfl⟩ := hA.nilE
   obtain rfl : c = 0 := hc rfl
   have hrun := run_append_owned_none (P := P) (w := w) base t o.type e i size ht hi v n xs hown
   unfold Oper.wp
   simp [execOp, ho, resolve, invoke, builtin, hs, hx, hrun, Result.andThen]
   exact h v w (by simpa using hown) ⟨rfl, rfl, rfl, Nat.le_refl _, fun _ _ _ => rfl⟩ (.inl rfl)
 | some ad =>
   obtain ⟨v', w', hr, h2, h3, _, h5⟩ := run_append_own_at (P := P) w base t o.type e i z size bytes ht hi hz hsize hby hzs hsz v n xs hown ad m c (fs.map I) (by rw [List.length_map]; exact hA.1) hA.src newsK h63 hbytes hbase
   unfold Oper.wp execOp
   simp only [ho, resolve, invoke, builtin, Sem.run_bind, Sem.run_pure, Result.andThen_ok, List.map_toArray, List.map_cons, List.map_nil, hs, hx, hr]
   exact h v' w' h2 h3 h5
theorem step_append_any {P : Program} {ops : Array Oper} {o : Oper} {a : Act} (w : World) {K : Act → World → Prop} {Q : Exit → Act → World → Prop} {E : Prop} (hg : o.guard = none) (s x : Operand) (t : TypeId)
   (ho : o.op = .call { callee := .builtin .append, args := #[s, x], argTypes := #[t, t] })
   (base : Nat) (e : TypeId) (i : TypeInfo) (z : Value) (size bytes : Nat) (ht : P.underlying t = some (.slice e)) (hi : P.info? e = some i) (hz : i.zero = some z)
   (hsize : i.size = size) (hby : i.bytes = bytes) (hzs : z.cells.size = size) (hsz : 0 < size)
   (v : Value) (n : Nat) (xs : List Value) (hs : a.eval s = v) (hown : w.ownsRow base e size v n xs)
   (ad : Option Addr) (m c : Nat) (fs : List Int) (hx : a.eval x = .slice ad m c) (hc : ad = none → c = 0) (hA : KAt size w ad m fs)
   (h63 : n + m ≤ maxLen) (hbytes : (n + m) * bytes ≤ 140737488355328) (hbase : base ≤ w.heap.size)
   (h : ∀ v' w', w'.ownsRow base e size v' (n + m) (xs ++ fs.map I) → w.grownBy w' v.ownBlock → (v'.ownBlock = v.ownBlock ∨ v'.ownBlock = some w.heap.size) → K (a.put o.dst v') w') :
   if Region.wanted o (yielded ops a.tmps) = true then Oper.wp P o a w K Q else E := by
 rw [if_pos (by simp [Region.wanted, hg])]
 exact wp_append_any w s x t ho base e i z size bytes ht hi hz hsize hby hzs hsz v n xs hs hown ad m c fs hx hc hA h63 hbytes hbase h
end
section
open Go.ChangeShapes Go.WideShapes Go.ChangeAt Go.RowKit Go.Joins
theorem resN_empty {w : World} {base : Nat} {T : TypeId} {size : Nat} (hb : base ≤ w.heap.size) : (w.alloc (.cells #[] T)).drew.ownsRow base T size (.slice (some ⟨w.heap.size, 0, none⟩) 0 0) 0 [] := own_emptyK hb
theorem resN_ge {g n c k : Nat} (e : (Value.slice (some ⟨g, 0, none⟩) n c).ownBlock = some k) : g ≤ k := by
 have h1 : g = k := by simpa [Value.ownBlock] using e
 omega
noncomputable def resNL : List Oper := match Try.f49.body with
 | some (.seq _ (.seq (.region _ ops _) _)) => ops.toList
 | _ => []
theorem resN_kAt {w : World} {a : Option Addr} {n : Nat} {xs : List Int} (h : IntAt w a n xs) (hn : n ≤ 2097152) : KAt 1 w a n xs := by
 refine ⟨by have := h.1; omega, hn, ?_⟩
 rcases h.2.2 with h0 | ⟨b, o, h1, h2⟩
 · exact .inl h0
 · exact .inr ⟨b, o, h1, fun i hi => h2 i (by omega)⟩
theorem l6Res_nil (code : Int) (ad : Option Addr) (n c : Nat) (hnil : ad = none → c = 0) (rs : List Int) (w : World) (h : IntAt w ad n rs) (hn : n ≤ 1048576) :
   Calls Try.prog 49 #[ResV code ad n c] w fun e w' => ∃ v, e = .returned (.agg #[.int .i64 code, v]) ∧ w'.ownsRow w.heap.size 3 1 v n (rs.map I) ∧ Below w.heap.size w w' := by
 obtain ⟨i0, hi0, hz0, hz1, hz2⟩ := info_parts infoInt
 obtain ⟨W, hW⟩ : ∃ W, ((w.alloc (.cells #[.int .i64 code, .slice ad n c] 32)).alloc (.cells #[.int .i64 0, .slice none 0 0] 32)) = W := ⟨_, rfl⟩
 have hb0 : Below w.heap.size w W := by rw [← hW]; exact ((Below.refl _ w).alloc (Nat.le_refl _) _).alloc (by simp) _
 have hsz : W.heap.size = w.heap.size + 2 := by rw [← hW]; simp
 have HSZ : Hid (W.heap.size = w.heap.size + 2) := hsz
 have X0 : Hid (Box W w.heap.size #[.int .i64 code, .slice ad n c] 32) := by rw [← hW]; exact (box_of w _ _).alloc _
 have R0 : Hid (Box W (w.heap.size + 1) #[.int .i64 0, .slice none 0 0] 32) := by
   have := box_of (w.alloc (.cells #[.int .i64 code, .slice ad n c] 32)) #[.int .i64 0, .slice none 0 0] 32
   rw [hW] at this
   show Box _ _ _ _
   simpa using this
 have HA : Hid (IntAt W ad n rs) := h.below hb0 (Nat.le_refl _)
 have HB0 : Hid (Below w.heap.size w W) := hb0
 have HW : Hid (((w.alloc (.cells #[.int .i64 code, .slice ad n c] 32)).alloc (.cells #[.int .i64 0, .slice none 0 0] 32)) = W) := hW
 have BOX : Hid (∀ w', Below W.heap.size W w' → w'.cell? ⟨w.heap.size, 0, none⟩ = some (.int .i64 code) ∧ w'.cell? ⟨w.heap.size, 1, none⟩ = some (.slice ad n c)) := fun w' hb => ⟨(X0.out.below hb X0.out.lt).two.1, (X0.out.below hb X0.out.lt).two.2.1⟩
 have SRC : Hid (KAt 1 (W.alloc (.cells #[] 3)) ad n rs) := (resN_kAt HA.out (by omega)).below ((Below.refl _ W).alloc (Nat.le_refl _) _) (Nat.le_refl _)
 clear h hW hb0 hsz
 go_enter Try.func49, Try.ntmps49
 go_wp2_with fail
 rw [HW.out]
 change (Code.region _ (List.toArray resNL) true).wp _ _ _ _
 refine wp_region_held_drew (S := fun w' => w'.cell? ⟨w.heap.size, 0, none⟩ = some (.int .i64 code) ∧ w'.cell? ⟨w.heap.size, 1, none⟩ = some (.slice ad n c)) (by kernel_rfl) ?_ (fun hHeld => ?_)
 · exact BOX.out _ (Below.refl _ _).drew
 refine wpAnyH_take (i := 0) (oi := _) (v := .pointer (some ⟨w.heap.size, 0, none⟩)) (by rw [List.getElem?_toArray]; exact rfl) (by kernel_rfl) (by kernel_rfl) (by kernel_rfl) (by intro _ _ _ h; exact h) (Or.inl ⟨by kernel_rfl, ?_⟩) hHeld ?_
 · intro w hSw; obtain ⟨s1, s2⟩ := hSw; go_simp
 (try simp only [Act.put, List.setIfInBounds_toArray, List.set_cons_zero, List.set_cons_succ])
 refine wpAnyH_take (i := 1) (oi := _) (v := .int .i64 code) (by rw [List.getElem?_toArray]; exact rfl) (by kernel_rfl) (by kernel_rfl) (by kernel_rfl) (by intro _ _ _ h; exact h) (Or.inl ⟨by kernel_rfl, ?_⟩) hHeld ?_
 · intro w hSw; obtain ⟨s1, s2⟩ := hSw; go_simp
 (try simp only [Act.put, List.setIfInBounds_toArray, List.set_cons_zero, List.set_cons_succ])
 refine wpAnyH_take (i := 3) (oi := _) (v := .pointer (some ⟨w.heap.size, 1, none⟩)) (by rw [List.getElem?_toArray]; exact rfl) (by kernel_rfl) (by kernel_rfl) (by kernel_rfl) (by intro _ _ _ h; exact h) (Or.inl ⟨by kernel_rfl, ?_⟩) hHeld ?_
 · intro w hSw; obtain ⟨s1, s2⟩ := hSw; go_simp
 (try simp only [Act.put, List.setIfInBounds_toArray, List.set_cons_zero, List.set_cons_succ])
 refine wpAnyH_take (i := 4) (oi := _) (v := .slice ad n c) (by rw [List.getElem?_toArray]; exact rfl) (by kernel_rfl) (by kernel_rfl) (by kernel_rfl) (by intro _ _ _ h; exact h) (Or.inl ⟨by kernel_rfl, ?_⟩) hHeld ?_
 · intro w hSw; obtain ⟨s1, s2⟩ := hSw; go_simp
 (try simp only [Act.put, List.setIfInBounds_toArray, List.set_cons_zero, List.set_cons_succ])
 refine wpAnyH_ready (rs := [2]) (by kernel_rfl) (by simp) ?_
 refine AllReadyH.cons (o := _) (by rw [List.getElem?_toArray]; exact rfl) (fun K hK => ?_) AllReadyH.nil
 rw [if_pos (by kernel_rfl)]
 go_simp
 have hBa : Below W.heap.size W (W.alloc (.cells #[] 3)).drew := ((Below.refl W.heap.size W).alloc (Nat.le_refl _) _).drew
 refine hK.out _ _ (BOX.out _ hBa) (fun hHeld => ?_)
 clear hK K
 (try simp only [Act.put, List.setIfInBounds_toArray, List.set_cons_zero, List.set_cons_succ])
 refine wpAnyH_ready (rs := [5]) (by kernel_rfl) (by simp) ?_
 refine AllReadyH.cons (o := _) (by rw [List.getElem?_toArray]; exact rfl) (fun K hK => ?_) AllReadyH.nil
 refine step_append_any _ (by rfl) _ _ 24 (by rfl) W.heap.size 3 i0 (.int .i64 0) 1 8 Try.underlying24 hi0 hz0 hz1 hz2 (by rfl) (by decide) (.slice (some ⟨W.heap.size, 0, none⟩) 0 0) 0 [] (by rfl) (resN_empty (Nat.le_refl _)) ad n c rs (by rfl) hnil (SRC.out.below (Below.refl _ _).drew (Nat.le_refl _)) (by unfold maxLen; omega) (by omega) (by show W.heap.size ≤ (W.alloc _).heap.size; simp) ?_
 intro v' w2 own2 grow2 _
 rw [Nat.zero_add, List.nil_append] at own2
 have hB2 : Below W.heap.size W w2 := hBa.grown grow2 (by show W.heap.size ≤ (W.alloc _).heap.size; simp) (fun k e => resN_ge e)
 obtain ⟨va, vc, rfl, _⟩ := owns_slice own2
 refine hK.out _ _ (BOX.out _ hB2) (fun hHeld => ?_)
 clear hK K
 (try simp only [Act.put, List.setIfInBounds_toArray, List.set_cons_zero, List.set_cons_succ])
 refine wpAnyH_take (i := 6) (oi := _) (v := .agg #[.int .i64 code, .slice va n vc]) (by rw [List.getElem?_toArray]; exact rfl) (by kernel_rfl) (by kernel_rfl) (by kernel_rfl) (by intro _ _ _ h; exact h) (Or.inl ⟨by kernel_rfl, ?_⟩) hHeld ?_
 · intro w hSw; go_simp
 (try simp only [Act.put, List.setIfInBounds_toArray, List.set_cons_zero, List.set_cons_succ])
 obtain ⟨r0, r1, z0, z1⟩ := (R0.out.below hB2 R0.out.lt).two
 refine wpAnyH_ready (rs := [7]) (by kernel_rfl) (by simp) ?_
 refine AllReadyH.cons (o := _) (by rw [List.getElem?_toArray]; exact rfl) (fun K hK => ?_) AllReadyH.nil
 rw [if_pos (by kernel_rfl)]
 go_simp
 refine hK.out _ _ ?_ (fun hHeld => ?_)
 · exact ⟨((((X0.out.below hB2 X0.out.lt).set (q := ⟨w.heap.size + 1, 0, none⟩) (show w.heap.size ≠ w.heap.size + 1 by omega) _).set (q := ⟨w.heap.size + 1, 1, none⟩) (show w.heap.size ≠ w.heap.size + 1 by omega) _).two).1, ((((X0.out.below hB2 X0.out.lt).set (q := ⟨w.heap.size + 1, 0, none⟩) (show w.heap.size ≠ w.heap.size + 1 by omega) _).set (q := ⟨w.heap.size + 1, 1, none⟩) (show w.heap.size ≠ w.heap.size + 1 by omega) _).two).2.1⟩
 clear hK K
 (try simp only [Act.put, List.setIfInBounds_toArray, List.set_cons_zero, List.set_cons_succ])
 refine wpAnyH_done (by kernel_rfl) ?_ _
 obtain ⟨e0, e1, _, _⟩ := (((R0.out.below hB2 R0.out.lt).put 0 (.int .i64 code)).put 1 (.slice va n vc)).two
 go_wp2
 (try simp only [Exit.inBlock, Exit.then])
 refine bodyPost_ret (by simp [results, Try.results49, go_sem, e0, e1]; try rfl) rfl ?_
 have hs := HSZ.out
 have hwb : (Value.slice va n vc).ownBlock ≠ some (w.heap.size + 1) := fun e => by have := (own2.lt _ e).1; omega
 exact ⟨.slice va n vc, rfl, own_setCell_far (own_setCell_far (own_weaken own2 HB0.out.size) hwb _) hwb _, ((HB0.out.trans (hB2.mono HB0.out.size)).setCell (by simp) _).setCell (by simp) _⟩
end
section
open Go.ChangeShapes Go.WideShapes Go.ChangeAt Go.RowKit
abbrev ThV5 (a0 : Option Addr) (c0 : Nat) (a1 : Option Addr) (c1 : Nat) (a2 : Option Addr) (c2 : Nat) (t : ThD) : Value := .agg #[.slice a0 t.n0 c0, .int .i64 t.pc, .bool t.on, .slice a1 t.n1 c1, .slice a2 t.n2 c2]


theorem infoCallT : (Try.prog.info? 34).map (fun i => (i.zero, i.size, i.bytes)) = some (some (.agg #[.int .i64 0, .int .i64 0, .int .i64 0, .int .i64 0, .int .i64 0, .int .i64 0, .int .i64 0, .int .i64 0, .slice none 0 0]), 9, 88) := by kernel_rfl
theorem nineT_of {w : World} {b : Nat} {v0 v1 v2 v3 v4 v5 v6 v7 v8 : Value} {T : TypeId} (h : Box w b #[v0, v1, v2, v3, v4, v5, v6, v7, v8] T) : w.cell? ⟨b, 0, none⟩ = some v0 ∧ w.cell? ⟨b, 1, none⟩ = some v1 ∧ w.cell? ⟨b, 2, none⟩ = some v2 ∧ w.cell? ⟨b, 3, none⟩ = some v3 ∧ w.cell? ⟨b, 4, none⟩ = some v4 ∧ w.cell? ⟨b, 5, none⟩ = some v5 ∧ w.cell? ⟨b, 6, none⟩ = some v6 ∧ w.cell? ⟨b, 7, none⟩ = some v7 ∧ w.cell? ⟨b, 8, none⟩ = some v8 ∧ w.frozen? ⟨b, 7, none⟩ = false ∧ w.frozen? ⟨b, 8, none⟩ = false := ⟨h.cell 0, h.cell 1, h.cell 2, h.cell 3, h.cell 4, h.cell 5, h.cell 6, h.cell 7, h.cell 8, h.frozen 7, h.frozen 8⟩
theorem callV_src (w : World) (d : CaD) (u : Value) (t : TypeId) : ∀ (j : Nat) (q : Value), (callV d u)[j]? = some q → (w.alloc (.cells (callV d u).toArray t)).cell? ((⟨w.heap.size, 0, none⟩ : Addr).add j) = some q := by
 intro j q hj
 have hx := (box_of w (callV d u).toArray t).cell j
 have e : (⟨w.heap.size, 0, none⟩ : Addr).add j = ⟨w.heap.size, j, none⟩ := by simp [Addr.add]; omega
 rw [e, hx]
 simpa using hj
theorem callV_one (d : CaD) (a : Option Addr) (n c : Nat) : ∀ u ∈ callV d (.slice a n c), u.oneCell' = true := by
 intro u hu
 simp [callV] at hu
 rcases hu with rfl | rfl | rfl | rfl | rfl | rfl | rfl | rfl | rfl <;> rfl
theorem spec_l12Told (ca : Option Addr) (m cc : Nat) (f : Nat → CaD) (rs : Nat → List Int) (w : World) (hm : m ≤ 1048576) (h : CasN w ca m f rs) :
   Calls Try.prog 30 #[.slice ca m cc] w fun e w' => ∃ v, e = .returned v ∧ ToldAt w' w.heap.size v (toldL f rs m) ∧ Below w.heap.size w w' := by
 have HC : Hid (CasN w ca m f rs) := h
 obtain ⟨i0, hi, hz⟩ := Option.map_eq_some_iff.1 infoCallT
 have hz0 : i0.zero = some (.agg #[.int .i64 0, .int .i64 0, .int .i64 0, .int .i64 0, .int .i64 0, .int .i64 0, .int .i64 0, .int .i64 0, .slice none 0 0]) := congrArg Prod.fst hz
 have hz1 : i0.size = 9 := congrArg (fun p => p.2.1) hz
 have hz2 : i0.bytes = 88 := congrArg (fun p => p.2.2) hz
 obtain ⟨sz, hsz⟩ : ∃ sz, w.heap.size = sz := ⟨_, rfl⟩
 obtain ⟨W, hW⟩ : ∃ W, w.alloc (.cells #[] 34) = W := ⟨_, rfl⟩
 have HB0 : Hid (Below sz w W) := by rw [← hW, ← hsz]; exact (Below.refl _ w).alloc (Nat.le_refl _) _
 have HT0 : Hid (ToldAt W sz (.slice (some ⟨sz, 0, none⟩) 0 0) []) := by rw [← hW, ← hsz]; exact told_none (own_emptyK (Nat.le_refl _))
 have HW : Hid (w.alloc (.cells #[] 34) = W) := hW
 have HSZ : Hid (w.heap.size = sz) := hsz
 rw [hsz]
 clear h hz hW hsz
 go_enter Try.func30, Try.ntmps30
 go_upto_region 2 with (fail)
 rw [HW.out]
 (try rw [HSZ.out])
 go_wp2
 go_loopw [3, 4] (fun v i wr => ∃ k : Nat, k ≤ m ∧ i = .int .i64 (k : Int) ∧ ToldAt wr sz v (toldL f rs k) ∧ Below sz w wr) (fun _ i _ => m - (intOf i).toNat)
 case atStart => exact ⟨0, Nat.zero_le _, rfl, HT0.out, HB0.out⟩
 case round =>
   obtain ⟨k, hk, rfl, hT, hb⟩ := hrel
   have HT : Hid (ToldAt wr sz u3 (toldL f rs k)) := hT
   have HB : Hid (Below sz w wr) := hb
   clear hT hb
   by_cases hlt : k < m
   case neg =>
     obtain rfl : m = k := by omega
     go_wp2
     go_ret
     first | exact ⟨HT.out, HB.out⟩ | exact ⟨_, rfl, HT.out, HB.out⟩
   have hk0 : (0 : Int) ≤ (k : Int) := by omega
   have hk1 : (k : Int) < (m : Int) := by omega
   rcases HC.out.below HB.out (by rw [HSZ.out]; exact Nat.le_refl _) with h0 | ⟨p1, o1, rfl, g1⟩
   · omega
   obtain ⟨ra, rn, rc, ⟨e0, e1, e2, e3, e4, e5, e6, e7, e8⟩, hres, hnil, hrn⟩ := g1 k hlt
   obtain ⟨L, hL⟩ : ∃ L, rs k = L := ⟨_, rfl⟩
   obtain ⟨C, hC⟩ : ∃ C, f k = C := ⟨_, rfl⟩
   rw [hL] at hres
   rw [hC] at e0 e1 e2 e3 e4 e5 e6 e7
   have HFK : Hid (f k = C ∧ rs k = L) := ⟨hC, hL⟩
   obtain ⟨x0, x1, x2, x3, x4, x5, x6, x7⟩ := C
   dsimp only at e0 e1 e2 e3 e4 e5 e6 e7
   obtain ⟨q, hq⟩ : ∃ q, wr.heap.size = q := ⟨_, rfl⟩
   obtain ⟨X, hX⟩ : ∃ X, wr.alloc (.cells #[.int .i64 x0, .int .i64 x1, .int .i64 x2, .int .i64 x3, .int .i64 x4, .int .i64 x5, .int .i64 x6, .int .i64 x7, .slice ra rn rc] 34) = X := ⟨_, rfl⟩
   have hbx : Below q wr X := by rw [← hX, ← hq]; exact (Below.refl _ wr).alloc (Nat.le_refl _) _
   have BC : Hid (Box X q #[.int .i64 x0, .int .i64 x1, .int .i64 x2, .int .i64 x3, .int .i64 x4, .int .i64 x5, .int .i64 x6, .int .i64 x7, .slice ra rn rc] 34) := by rw [← hX, ← hq]; exact box_of wr _ _
   have HBX : Hid (Below q wr X) := hbx
   have HRES : Hid (IntAt X ra rn L) := hres.below hbx (by omega)
   have HNIL : Hid (ra = none → rc = 0) := hnil
   have HLEN : Hid (L.length = rn) := hres.1
   have HX : Hid (wr.alloc (.cells #[.int .i64 x0, .int .i64 x1, .int .i64 x2, .int .i64 x3, .int .i64 x4, .int .i64 x5, .int .i64 x6, .int .i64 x7, .slice ra rn rc] 34) = X) := hX
   have HQ : Hid (wr.heap.size = q) := hq
   have LQ : sz ≤ q := by have := HB.out.size; have := HSZ.out; omega
   have HQX : Hid (q + 1 = X.heap.size) := by show _ = _; rw [← hX, ← hq]; simp
   clear g1 hC hL hres hnil hbx hX
   go_upto_region 6 with (fail)
   rw [HX.out]
   (try rw [HQ.out])
   clear HX hq e0 e1 e2 e3 e4 e5 e6 e7 e8
   obtain ⟨u0, u1, u2, u3', u4, u5, u6, u7, u8, z7, z8⟩ := nineT_of BC.out
   by_cases hq : ToldQ (⟨x0, x1, x2, x3, x4, x5, x6, x7⟩ : CaD) = true
   case neg =>
     have hn6 : ¬ 0 ≤ x6 := fun h => hq (by simp [ToldQ, h])
     have hn5 : ¬ 0 ≤ x5 := fun h => hq (by simp [ToldQ, h])
     have HN : Hid (toldL f rs (k + 1) = toldL f rs k) := toldL_no (by rw [HFK.out.1]; simpa using hq)
     have HT2 : Hid (ToldAt X sz u3 (toldL f rs k)) := HT.out.on HBX.out (by rw [HQ.out]; exact Nat.le_refl _)
     have HB2 : Hid (Below sz w X) := HB.out.trans (HBX.out.mono LQ)
     have hg6 : decide (x6 ≥ 0) = false := decide_eq_false hn6
     have hg5 : decide (x5 ≥ 0) = false := decide_eq_false hn5
     clear hq
     go_wp2
     exact ⟨⟨k + 1, by omega, by go_num, by rw [HN.out]; exact HT2.out, HB2.out⟩, by simp [intOf]; omega⟩
   have HN : Hid (toldL f rs (k + 1) = toldL f rs k ++ [(⟨x0, x1, x2, x3, x4, x5, x6, x7⟩, L)]) := by
     show _ = _
     rw [toldL_yes (by rw [HFK.out.1]; exact hq), HFK.out.1, HFK.out.2]
   have hcase : 0 ≤ x6 ∨ (¬ 0 ≤ x6 ∧ 0 ≤ x5) := by
     by_cases h6 : 0 ≤ x6
     · exact .inl h6
     · by_cases h5 : 0 ≤ x5
       · exact .inr ⟨h6, h5⟩
       · exact absurd hq (by simp [ToldQ, h5, h6])
   clear hq
   rcases hcase with h6 | ⟨h6, h5⟩
   · have hg6 : decide (x6 ≥ 0) = true := decide_eq_true h6
     go_wp2_with fail
     refine (l6Res_nil x7 ra rn rc HNIL.out L X HRES.out hrn).mono ?_
     rintro e w2 ⟨v, rfl, hown, hb2⟩
     obtain ⟨va, vc, rfl, _⟩ := owns_slice hown
     have HO2 : Hid (w2.ownsRow X.heap.size 3 1 (.slice va rn vc) rn (L.map I)) := hown
     have HB2 : Hid (Below q wr w2) := HBX.out.trans (hb2.mono (by have := HQX.out; omega))
     have BC2 : Hid (Box w2 q #[.int .i64 x0, .int .i64 x1, .int .i64 x2, .int .i64 x3, .int .i64 x4, .int .i64 x5, .int .i64 x6, .int .i64 x7, .slice ra rn rc] 34) := BC.out.below hb2 BC.out.lt
     obtain ⟨Y, hY⟩ : ∃ Y, (w2.setCell ⟨q, 7, none⟩ (.int .i64 x7)).setCell ⟨q, 8, none⟩ (.slice va rn vc) = Y := ⟨_, rfl⟩
     have BY : Hid (Box Y q #[.int .i64 x0, .int .i64 x1, .int .i64 x2, .int .i64 x3, .int .i64 x4, .int .i64 x5, .int .i64 x6, .int .i64 x7, .slice va rn vc] 34) := by rw [← hY]; exact (BC2.out.put 7 _).put 8 _
     have HBY : Hid (Below q wr Y) := by rw [← hY]; exact (HB2.out.setCell (Nat.le_refl _) _).setCell (Nat.le_refl _) _
     have HOY : Hid (Y.ownsRow q 3 1 (.slice va rn vc) rn (L.map I)) := by
       have hwb : (Value.slice va rn vc).ownBlock ≠ some q := fun e => by have := (HO2.out.lt _ e).1; have := HQX.out; omega
       rw [← hY]
       exact own_setCell_far (own_setCell_far (own_weaken HO2.out (by have := HQX.out; omega)) hwb _) hwb _
     have HY : Hid ((w2.setCell ⟨q, 7, none⟩ (.int .i64 x7)).setCell ⟨q, 8, none⟩ (.slice va rn vc) = Y) := hY
     clear hown hb2 hY u0 u1 u2 u3' u4 u5 u6 u7 u8 z7 z8
     obtain ⟨u0, u1, u2, u3', u4, u5, u6, u7, u8, z7, z8⟩ := nineT_of BC2.out
     go_upto_region 8 with (fail)
     rw [HY.out]
     clear u0 u1 u2 u3' u4 u5 u6 u7 u8 z7 z8 HY
     obtain ⟨u0, u1, u2, u3', u4, u5, u6, u7, u8, z7, z8⟩ := nineT_of BY.out
     obtain ⟨q4, hq4⟩ : ∃ q4, Y.heap.size = q4 := ⟨_, rfl⟩
     obtain ⟨Z, hZ⟩ : ∃ Z, Y.alloc (.cells #[.int .i64 x0, .int .i64 x1, .int .i64 x2, .int .i64 x3, .int .i64 x4, .int .i64 x5, .int .i64 x6, .int .i64 x7, .slice va rn vc] 34) = Z := ⟨_, rfl⟩
     have hbz : Below q wr Z := by rw [← hZ]; exact HBY.out.alloc (by have := HBY.out.size; have := HQ.out; omega) _
     have HOZ : Hid (Z.ownsRow q 3 1 (.slice va rn vc) rn (L.map I)) := by rw [← hZ]; exact HOY.out.alloc _
     have SRC : Hid (∀ (j : Nat) (y : Value), (callV ⟨x0, x1, x2, x3, x4, x5, x6, x7⟩ (.slice va rn vc))[j]? = some y → Z.cell? ((⟨q4, 0, none⟩ : Addr).add j) = some y) := by
       rw [← hZ, ← hq4]
       exact callV_src Y ⟨x0, x1, x2, x3, x4, x5, x6, x7⟩ (.slice va rn vc) 34
     have hll := toldL_len f rs k
     obtain ⟨vs, hrow, back⟩ := HT.out.app (by omega) hbz (by rw [HQ.out]; exact Nat.le_refl _) LQ
     have HROW : Hid (Z.ownsRow sz 34 9 u3 (toldL f rs k).length vs) := hrow
     have HBACK : Hid (∀ (v' : Value) (w' : World), w'.ownsRow sz 34 9 v' ((toldL f rs k).length + 1) (vs ++ callV ⟨x0, x1, x2, x3, x4, x5, x6, x7⟩ (.slice va rn vc)) → Z.grownBy w' u3.ownBlock → (v'.ownBlock = u3.ownBlock ∨ v'.ownBlock = some Z.heap.size) → ToldAt w' sz v' (toldL f rs (k + 1))) := fun v' w' h1 h2 h3 => by
       rw [HN.out]
       have hl := HLEN.out
       exact back v' (.slice va rn vc) w' (⟨x0, x1, x2, x3, x4, x5, x6, x7⟩, L) (by show World.ownsRow _ _ _ _ _ _ _; rw [show (((⟨x0, x1, x2, x3, x4, x5, x6, x7⟩ : CaD), L) : CaR).2.length = rn from hl]; exact HOZ.out) (by show L.length ≤ _; omega) h1 h2 h3
     have HBZ : Hid (Below sz w Z) := HB.out.trans (hbz.mono LQ)
     have LSZ : sz ≤ Z.heap.size := by have := hbz.size; have := HQ.out; omega
     have HZ : Hid (Y.alloc (.cells #[.int .i64 x0, .int .i64 x1, .int .i64 x2, .int .i64 x3, .int .i64 x4, .int .i64 x5, .int .i64 x6, .int .i64 x7, .slice va rn vc] 34) = Z) := hZ
     have HQ4 : Hid (Y.heap.size = q4) := hq4
     obtain ⟨nl, hnl⟩ : ∃ nl, (toldL f rs k).length = nl := ⟨_, rfl⟩
     have HNL : Hid ((toldL f rs k).length = nl) := hnl
     rw [hnl] at hll
     clear hZ hq4 hbz hrow back hnl
     go_wp2_with
       (at_builtin
        first | rw [HZ.out] | skip
        first | rw [HQ4.out] | skip
        refine wpList_append_own_at _ rfl _ _ 48 rfl sz 34 i0 (.agg #[.int .i64 0, .int .i64 0, .int .i64 0, .int .i64 0, .int .i64 0, .int .i64 0, .int .i64 0, .int .i64 0, .slice none 0 0]) 9 88 Try.underlying48 hi hz0 hz1 hz2 rfl (by decide) u3 nl vs rfl (by rw [← HNL.out]; exact HROW.out) ⟨q4, 0, none⟩ 1 1 (callV ⟨x0, x1, x2, x3, x4, x5, x6, x7⟩ (.slice va rn vc)) rfl rfl SRC.out (callV_one _ _ _ _) (by unfold maxLen; omega) (by omega) LSZ ?_
        intro v' w5 own' gr _ at'
        have HT5 : Hid (ToldAt w5 sz v' (toldL f rs (k + 1))) := HBACK.out v' w5 (by rw [HNL.out]; exact own') gr at'
        have HB5 : Hid (Below sz w w5) := HBZ.out.grown gr LSZ (fun b e => (HROW.out.lt b e).1)
        clear own' gr at')
     (try go_wp2)
     exact ⟨⟨k + 1, by omega, by go_num, HT5.out, HB5.out⟩, by simp [intOf]; omega⟩
   · have hg6 : decide (x6 ≥ 0) = false := decide_eq_false h6
     have hg5 : decide (x5 ≥ 0) = true := decide_eq_true h5
     go_wp2_with fail
     refine (l6Res_nil x7 ra rn rc HNIL.out L X HRES.out hrn).mono ?_
     rintro e w2 ⟨v, rfl, hown, hb2⟩
     obtain ⟨va, vc, rfl, _⟩ := owns_slice hown
     have HO2 : Hid (w2.ownsRow X.heap.size 3 1 (.slice va rn vc) rn (L.map I)) := hown
     have HB2 : Hid (Below q wr w2) := HBX.out.trans (hb2.mono (by have := HQX.out; omega))
     have BC2 : Hid (Box w2 q #[.int .i64 x0, .int .i64 x1, .int .i64 x2, .int .i64 x3, .int .i64 x4, .int .i64 x5, .int .i64 x6, .int .i64 x7, .slice ra rn rc] 34) := BC.out.below hb2 BC.out.lt
     obtain ⟨Y, hY⟩ : ∃ Y, (w2.setCell ⟨q, 7, none⟩ (.int .i64 x7)).setCell ⟨q, 8, none⟩ (.slice va rn vc) = Y := ⟨_, rfl⟩
     have BY : Hid (Box Y q #[.int .i64 x0, .int .i64 x1, .int .i64 x2, .int .i64 x3, .int .i64 x4, .int .i64 x5, .int .i64 x6, .int .i64 x7, .slice va rn vc] 34) := by rw [← hY]; exact (BC2.out.put 7 _).put 8 _
     have HBY : Hid (Below q wr Y) := by rw [← hY]; exact (HB2.out.setCell (Nat.le_refl _) _).setCell (Nat.le_refl _) _
     have HOY : Hid (Y.ownsRow q 3 1 (.slice va rn vc) rn (L.map I)) := by
       have hwb : (Value.slice va rn vc).ownBlock ≠ some q := fun e => by have := (HO2.out.lt _ e).1; have := HQX.out; omega
       rw [← hY]
       exact own_setCell_far (own_setCell_far (own_weaken HO2.out (by have := HQX.out; omega)) hwb _) hwb _
     have HY : Hid ((w2.setCell ⟨q, 7, none⟩ (.int .i64 x7)).setCell ⟨q, 8, none⟩ (.slice va rn vc) = Y) := hY
     clear hown hb2 hY u0 u1 u2 u3' u4 u5 u6 u7 u8 z7 z8
     obtain ⟨u0, u1, u2, u3', u4, u5, u6, u7, u8, z7, z8⟩ := nineT_of BC2.out
     go_upto_region 8 with (fail)
     rw [HY.out]
     clear u0 u1 u2 u3' u4 u5 u6 u7 u8 z7 z8 HY
     obtain ⟨u0, u1, u2, u3', u4, u5, u6, u7, u8, z7, z8⟩ := nineT_of BY.out
     obtain ⟨q4, hq4⟩ : ∃ q4, Y.heap.size = q4 := ⟨_, rfl⟩
     obtain ⟨Z, hZ⟩ : ∃ Z, Y.alloc (.cells #[.int .i64 x0, .int .i64 x1, .int .i64 x2, .int .i64 x3, .int .i64 x4, .int .i64 x5, .int .i64 x6, .int .i64 x7, .slice va rn vc] 34) = Z := ⟨_, rfl⟩
     have hbz : Below q wr Z := by rw [← hZ]; exact HBY.out.alloc (by have := HBY.out.size; have := HQ.out; omega) _
     have HOZ : Hid (Z.ownsRow q 3 1 (.slice va rn vc) rn (L.map I)) := by rw [← hZ]; exact HOY.out.alloc _
     have SRC : Hid (∀ (j : Nat) (y : Value), (callV ⟨x0, x1, x2, x3, x4, x5, x6, x7⟩ (.slice va rn vc))[j]? = some y → Z.cell? ((⟨q4, 0, none⟩ : Addr).add j) = some y) := by
       rw [← hZ, ← hq4]
       exact callV_src Y ⟨x0, x1, x2, x3, x4, x5, x6, x7⟩ (.slice va rn vc) 34
     have hll := toldL_len f rs k
     obtain ⟨vs, hrow, back⟩ := HT.out.app (by omega) hbz (by rw [HQ.out]; exact Nat.le_refl _) LQ
     have HROW : Hid (Z.ownsRow sz 34 9 u3 (toldL f rs k).length vs) := hrow
     have HBACK : Hid (∀ (v' : Value) (w' : World), w'.ownsRow sz 34 9 v' ((toldL f rs k).length + 1) (vs ++ callV ⟨x0, x1, x2, x3, x4, x5, x6, x7⟩ (.slice va rn vc)) → Z.grownBy w' u3.ownBlock → (v'.ownBlock = u3.ownBlock ∨ v'.ownBlock = some Z.heap.size) → ToldAt w' sz v' (toldL f rs (k + 1))) := fun v' w' h1 h2 h3 => by
       rw [HN.out]
       have hl := HLEN.out
       exact back v' (.slice va rn vc) w' (⟨x0, x1, x2, x3, x4, x5, x6, x7⟩, L) (by show World.ownsRow _ _ _ _ _ _ _; rw [show (((⟨x0, x1, x2, x3, x4, x5, x6, x7⟩ : CaD), L) : CaR).2.length = rn from hl]; exact HOZ.out) (by show L.length ≤ _; omega) h1 h2 h3
     have HBZ : Hid (Below sz w Z) := HB.out.trans (hbz.mono LQ)
     have LSZ : sz ≤ Z.heap.size := by have := hbz.size; have := HQ.out; omega
     have HZ : Hid (Y.alloc (.cells #[.int .i64 x0, .int .i64 x1, .int .i64 x2, .int .i64 x3, .int .i64 x4, .int .i64 x5, .int .i64 x6, .int .i64 x7, .slice va rn vc] 34) = Z) := hZ
     have HQ4 : Hid (Y.heap.size = q4) := hq4
     obtain ⟨nl, hnl⟩ : ∃ nl, (toldL f rs k).length = nl := ⟨_, rfl⟩
     have HNL : Hid ((toldL f rs k).length = nl) := hnl
     rw [hnl] at hll
     clear hZ hq4 hbz hrow back hnl
     go_wp2_with
       (at_builtin
        first | rw [HZ.out] | skip
        first | rw [HQ4.out] | skip
        refine wpList_append_own_at _ rfl _ _ 48 rfl sz 34 i0 (.agg #[.int .i64 0, .int .i64 0, .int .i64 0, .int .i64 0, .int .i64 0, .int .i64 0, .int .i64 0, .int .i64 0, .slice none 0 0]) 9 88 Try.underlying48 hi hz0 hz1 hz2 rfl (by decide) u3 nl vs rfl (by rw [← HNL.out]; exact HROW.out) ⟨q4, 0, none⟩ 1 1 (callV ⟨x0, x1, x2, x3, x4, x5, x6, x7⟩ (.slice va rn vc)) rfl rfl SRC.out (callV_one _ _ _ _) (by unfold maxLen; omega) (by omega) LSZ ?_
        intro v' w5 own' gr _ at'
        have HT5 : Hid (ToldAt w5 sz v' (toldL f rs (k + 1))) := HBACK.out v' w5 (by rw [HNL.out]; exact own') gr at'
        have HB5 : Hid (Below sz w w5) := HBZ.out.grown gr LSZ (fun b e => (HROW.out.lt b e).1)
        clear own' gr at')
     (try go_wp2)
     exact ⟨⟨k + 1, by omega, by go_num, HT5.out, HB5.out⟩, by simp [intOf]; omega⟩
theorem spec_Told (v0 v1 v2 v3 v5 v6 v7 : Value) (ca : Option Addr) (m cc : Nat) (f : Nat → CaD) (rs : Nat → List Int) (w : World) (hm : m ≤ 1048576) (h : CasN w ca m f rs) :
   Calls Try.prog 11 #[.agg #[v0, v1, v2, v3, .slice ca m cc, v5, v6, v7]] w fun e w' => ∃ v, e = .returned v ∧ ToldAt w' w.heap.size v (toldL f rs m) ∧ Below w.heap.size w w' := by
 obtain ⟨W, hW⟩ : ∃ W, w.alloc (.cells #[v0, v1, v2, v3, .slice ca m cc, v5, v6, v7] 57) = W := ⟨_, rfl⟩
 have hb0 : Below w.heap.size w W := by rw [← hW]; exact (Below.refl _ w).alloc (Nat.le_refl _) _
 have HB0 : Hid (Below w.heap.size w W) := hb0
 have HC : Hid (CasN W ca m f rs) := h.below hb0 (Nat.le_refl _)
 have HW : Hid (w.alloc (.cells #[v0, v1, v2, v3, .slice ca m cc, v5, v6, v7] 57) = W) := hW
 clear h hb0 hW
 go_enter Try.func11, Try.ntmps11
 go_wp2_with fail
 rw [HW.out]
 refine (spec_l12Told ca m cc f rs W hm HC.out).mono ?_
 rintro e w2 ⟨v, rfl, hT, hb2⟩
 have HT : Hid (ToldAt w2 w.heap.size v (toldL f rs m)) := hT.weaken HB0.out.size
 have HB2 : Hid (Below w.heap.size w w2) := HB0.out.trans (hb2.mono HB0.out.size)
 clear hT hb2
 go_wp2
 go_ret
 first | exact ⟨HT.out, HB2.out⟩ | exact ⟨_, rfl, HT.out, HB2.out⟩
end
section
open Go.ChangeShapes Go.WideShapes Go.ChangeAt Go.RowKit Go.Joins
structure DescIn (W : World) (sq st : Int) (ea : Option Addr) (en : Nat) (es : List Int) (cd : Int) (ra : Option Addr) (rn : Nat) (rs : List Int) : Prop where
 we : en ≤ 9223372036854775807
 wr : rn ≤ 9223372036854775807
 ents : en ≤ 1048576 → TripAt W ea en es
 ints : rn ≤ 1048576 → IntAt W ra rn rs
def DescPre (w : World) (a : Option Addr) (n : Nat) (ds : List DK) : Prop :=
 ds.length = n ∧ n ≤ 1048576 ∧ (n = 0 ∨ ∃ b o, a = some ⟨b, o, none⟩ ∧ ∀ i, i < n → ∃ ea ec ra rc, Five w b (o + i * 5) (dk ds i) ea ec ra rc ∧ (dk ds i).en ≤ 9223372036854775807 ∧ (dk ds i).rn ≤ 9223372036854775807 ∧
   ((dk ds i).en ≤ 1048576 → TripAt w ea (dk ds i).en (dk ds i).es) ∧ ((dk ds i).rn ≤ 1048576 → IntAt w ra (dk ds i).rn (dk ds i).rs))
theorem DescPre.at {w : World} {a : Option Addr} {n : Nat} {ds : List DK} (h : DescPre w a n ds) (hs : ∀ i, i < n → (dk ds i).en ≤ 1048576 ∧ (dk ds i).rn ≤ 1048576) : DescAt w a n ds := by
 obtain ⟨h1, h2, h3 | ⟨b, o, h3, h4⟩⟩ := h
 · exact ⟨h1, h2, .inl h3⟩
 · refine ⟨h1, h2, .inr ⟨b, o, h3, fun i hi => ?_⟩⟩
   obtain ⟨ea, ec, ra, rc, h5, _, _, h6, h7⟩ := h4 i hi
   exact ⟨ea, ec, ra, rc, h5, h6 (hs i hi).1, h7 (hs i hi).2⟩
def At5 (vs : List Value) (i : Nat) (d : DK) (p q : Nat) : Prop :=
 vs[i * 5]? = some (I d.sq) ∧ vs[i * 5 + 1]? = some (I d.st) ∧ vs[i * 5 + 2]? = some (.slice (some ⟨p, 0, none⟩) d.en d.en) ∧ vs[i * 5 + 3]? = some (I d.cd) ∧ vs[i * 5 + 4]? = some (.slice (some ⟨q, 0, none⟩) d.rn d.rn)
def set5 (vs : List Value) (k : Nat) (a b c e f : Value) : List Value := ((((vs.set (k * 5) a).set (k * 5 + 1) b).set (k * 5 + 2) c).set (k * 5 + 3) e).set (k * 5 + 4) f
theorem set5_other {vs : List Value} {k j : Nat} (h : j < k * 5 ∨ k * 5 + 4 < j) (a b c e f : Value) : (set5 vs k a b c e f)[j]? = vs[j]? := by
 unfold set5
 rw [List.getElem?_set_ne (by omega), List.getElem?_set_ne (by omega), List.getElem?_set_ne (by omega), List.getElem?_set_ne (by omega), List.getElem?_set_ne (by omega)]
theorem At5.set5 {vs : List Value} {i k : Nat} {d : DK} {p q : Nat} (h : At5 vs i d p q) (hik : i ≠ k) (a b c e f : Value) : At5 (set5 vs k a b c e f) i d p q := by
 obtain ⟨h0, h1, h2, h3, h4⟩ := h
 unfold At5
 rw [set5_other (by omega), set5_other (by omega), set5_other (by omega), set5_other (by omega), set5_other (by omega)]
 exact ⟨h0, h1, h2, h3, h4⟩
structure Own5 (w : World) (g : Nat) (vs : List Value) (d : DK) (i p q : Nat) : Prop where
 at5 : At5 vs i d p q
 gp : g < p
 pq : p < q
 ents : w.ownsRow p 151 3 (SL p d.en) d.en (d.es.map I)
 ints : w.ownsRow q 3 1 (SL q d.rn) d.rn (d.rs.map I)
def DescOwn (w : World) (g n : Nat) (ds : List DK) (k : Nat) : Prop :=
 ∃ (vs : List Value) (P Q : Nat → Nat), w.ownsRow g 126 5 (SL g n) n vs ∧ ∀ i, i < k → Own5 w g vs (dk ds i) i (P i) (Q i) ∧ ∀ j, j < i → Q j < P i
theorem Own5.below {w w' : World} {g : Nat} {vs : List Value} {d : DK} {i p q : Nat} (h : Own5 w g vs d i p q) {B : Nat} (hb : Below B w w') (hB : w.heap.size ≤ B) : Own5 w' g vs d i p q :=
 ⟨h.at5, h.gp, h.pq, owns_below h.ents hb hB, owns_below h.ints hb hB⟩
theorem DescOwn.below {w w' : World} {g n k : Nat} {ds : List DK} (h : DescOwn w g n ds k) {B : Nat} (hb : Below B w w') (hB : w.heap.size ≤ B) : DescOwn w' g n ds k := by
 obtain ⟨vs, P, Q, h1, h2⟩ := h
 exact ⟨vs, P, Q, owns_below h1 hb hB, fun i hi => ⟨(h2 i hi).1.below hb hB, (h2 i hi).2⟩⟩
theorem DescOwn.at {w : World} {g n : Nat} {ds : List DK} (h : DescOwn w g n ds n) (hl : ds.length = n) (hn : n ≤ 1048576) (hs : ∀ i, i < n → (dk ds i).en ≤ 1048576 ∧ (dk ds i).rn ≤ 1048576) : DescAt w (some ⟨g, 0, none⟩) n ds := by
 obtain ⟨vs, P, Q, h1, h2⟩ := h
 refine ⟨hl, hn, .inr ⟨g, 0, rfl, fun i hi => ?_⟩⟩
 obtain ⟨⟨⟨a0, a1, a2, a3, a4⟩, _, _, he, hi'⟩, _⟩ := h2 i hi
 refine ⟨some ⟨P i, 0, none⟩, (dk ds i).en, some ⟨Q i, 0, none⟩, (dk ds i).rn, ⟨?_, ?_, ?_, ?_, ?_⟩, own_tripAt he (hs i hi).1, own_intAt hi' (by have := (hs i hi).2; omega)⟩
 · rw [Nat.zero_add]; exact own_cellV h1 a0
 · rw [Nat.zero_add]; exact own_cellV h1 a1
 · rw [Nat.zero_add]; exact own_cellV h1 a2
 · rw [Nat.zero_add]; exact own_cellV h1 a3
 · rw [Nat.zero_add]; exact own_cellV h1 a4
theorem Own5.far {w : World} {g : Nat} {vs : List Value} {d : DK} {i p q : Nat} (h : Own5 w g vs d i p q) (j : Nat) (u : Value) : Own5 (w.setCell ⟨g, j, none⟩ u) g vs d i p q :=
 ⟨h.at5, h.gp, h.pq, ownsRow_setCell_below h.ents h.gp _, ownsRow_setCell_below h.ints (Nat.lt_trans h.gp h.pq) _⟩
theorem Own5.vs {w : World} {g : Nat} {vs vs' : List Value} {d : DK} {i p q : Nat} (h : Own5 w g vs d i p q) (ha : At5 vs' i d p q) : Own5 w g vs' d i p q := ⟨ha, h.gp, h.pq, h.ents, h.ints⟩

theorem Own5.set {w : World} {g : Nat} {vs : List Value} {d : DK} {i p q : Nat} (h : Own5 w g vs d i p q) {a : Addr} (ha : a.block < g) (u : Value) : Own5 (w.setCell a u) g vs d i p q :=
 ⟨h.at5, h.gp, h.pq, ownsRow_setCell_below h.ents (Nat.lt_trans ha h.gp) u, ownsRow_setCell_below h.ints (Nat.lt_trans ha (Nat.lt_trans h.gp h.pq)) u⟩
theorem DescOwn.set {w : World} {g n k : Nat} {ds : List DK} (h : DescOwn w g n ds k) {a : Addr} (ha : a.block < g) (u : Value) : DescOwn (w.setCell a u) g n ds k := by
 obtain ⟨vs, P, Q, h1, h2⟩ := h
 exact ⟨vs, P, Q, ownsRow_setCell_below h1 ha u, fun i hi => ⟨(h2 i hi).1.set ha u, (h2 i hi).2⟩⟩
theorem DescPre.below {w w' : World} {a : Option Addr} {n : Nat} {ds : List DK} (h : DescPre w a n ds) {B : Nat} (hb : Below B w w') (hB : w.heap.size ≤ B) : DescPre w' a n ds := by
 obtain ⟨q0, q1, q2 | ⟨b, o, q3, q4⟩⟩ := h
 · exact ⟨q0, q1, .inl q2⟩
 · refine ⟨q0, q1, .inr ⟨b, o, q3, fun i hi => ?_⟩⟩
   obtain ⟨ea, ec, ra, rc, z5, z6, z7, z8, z9⟩ := q4 i hi
   exact ⟨ea, ec, ra, rc, z5.below hb hB, z6, z7, fun hh => (z8 hh).below hb hB, fun hh => (z9 hh).below hb hB⟩
theorem owns_trip {w : World} {base : Nat} {e : TypeId} {n c : Nat} {a : Option Addr} {fs : List Int} (h : w.ownsRow base e 3 (.slice a n c) n (fs.map I)) (hn : n ≤ 1048576) : TripAt w a n fs := by
 rcases owns_forms h with ⟨h2, h3⟩ | ⟨g, cap, hv⟩
 · subst h3
   exact ⟨by have := h.1; simpa using this, by omega, .inl rfl⟩
 · cases hv
   exact own_tripAt h hn
theorem owns_ints {w : World} {base : Nat} {e : TypeId} {n c : Nat} {a : Option Addr} {fs : List Int} (h : w.ownsRow base e 1 (.slice a n c) n (fs.map I)) (hn : n ≤ 1048576) : IntAt w a n fs := by
 obtain ⟨a', c', hv, hi⟩ := own_at h (by omega)
 cases hv
 exact hi
def Sep (F : Nat → Value) (N : Nat) : Prop := ∀ a b, a < N → b < N → a ≠ b → ∀ k, (F a).ownBlock = some k → (F b).ownBlock ≠ some k
def AtF (vs : List Value) (i : Nat) (d : DK) (v u : Value) : Prop :=
 vs[i * 5]? = some (I d.sq) ∧ vs[i * 5 + 1]? = some (I d.st) ∧ vs[i * 5 + 2]? = some v ∧ vs[i * 5 + 3]? = some (I d.cd) ∧ vs[i * 5 + 4]? = some u
theorem AtF.set {vs : List Value} {i : Nat} {d : DK} {v u : Value} (h : AtF vs i d v u) {j : Nat} (hj : j < i * 5 ∨ i * 5 + 4 < j) (x : Value) : AtF (vs.set j x) i d v u := by
 obtain ⟨h0, h1, h2, h3, h4⟩ := h
 unfold AtF
 rw [List.getElem?_set_ne (by omega), List.getElem?_set_ne (by omega), List.getElem?_set_ne (by omega), List.getElem?_set_ne (by omega), List.getElem?_set_ne (by omega)]
 exact ⟨h0, h1, h2, h3, h4⟩
structure DescO (w : World) (base : Nat) (F : Nat → Value) (n : Nat) (ds : List DK) : Prop where
 len : ds.length = n
 descs : ∃ vs, w.ownsRow base 126 5 (F 1) n vs ∧ ∀ i, i < n → AtF vs i (dk ds i) (F (2 + 2 * i)) (F (3 + 2 * i))
 ents : ∀ i, i < n → w.ownsRow base 151 3 (F (2 + 2 * i)) (dk ds i).en ((dk ds i).es.map I)
 ints : ∀ i, i < n → w.ownsRow base 3 1 (F (3 + 2 * i)) (dk ds i).rn ((dk ds i).rs.map I)
 sep : Sep F (2 + 2 * n)
structure MemO (w : World) (base : Nat) (F : Nat → Value) (m : Nat) (fs : List Int) (n : Nat) (ds : List DK) : Prop where
 words : w.ownsRow base 121 3 (F 0) m (fs.map I)
 descO : DescO w base F n ds
abbrev MemF (F : Nat → Value) : Value := .agg #[F 0, F 1]
def Small (n : Nat) (ds : List DK) : Prop := ∀ i, i < n → (dk ds i).en ≤ 1048576 ∧ (dk ds i).rn ≤ 1048576
theorem DescO.heap {w w' : World} {base : Nat} {F : Nat → Value} {n : Nat} {ds : List DK} (h : DescO w base F n ds) (he : ∀ a, 1 ≤ a → a < 2 + 2 * n → ∀ k, (F a).ownBlock = some k → w'.heap[k]? = w.heap[k]?) : DescO w' base F n ds := by
 obtain ⟨vs, h1, h2⟩ := h.descs
 exact ⟨h.len, ⟨vs, owns_heap h1 (he 1 (by omega) (by omega)), h2⟩, fun i hi => owns_heap (h.ents i hi) (he _ (by omega) (by omega)), fun i hi => owns_heap (h.ints i hi) (he _ (by omega) (by omega)), h.sep⟩
theorem DescO.below {w w' : World} {base : Nat} {F : Nat → Value} {n : Nat} {ds : List DK} (h : DescO w base F n ds) {B : Nat} (hb : Below B w w') (hB : w.heap.size ≤ B) : DescO w' base F n ds := by
 obtain ⟨vs, h1, h2⟩ := h.descs
 exact ⟨h.len, ⟨vs, owns_below h1 hb hB, h2⟩, fun i hi => owns_below (h.ents i hi) hb hB, fun i hi => owns_below (h.ints i hi) hb hB, h.sep⟩
theorem MemO.below {w w' : World} {base : Nat} {F : Nat → Value} {m : Nat} {fs : List Int} {n : Nat} {ds : List DK} (h : MemO w base F m fs n ds) {B : Nat} (hb : Below B w w') (hB : w.heap.size ≤ B) : MemO w' base F m fs n ds :=
 ⟨owns_below h.words hb hB, h.descO.below hb hB⟩
theorem MemO.heap {w w' : World} {base : Nat} {F : Nat → Value} {m : Nat} {fs : List Int} {n : Nat} {ds : List DK} (h : MemO w base F m fs n ds) (he : ∀ a, a < 2 + 2 * n → ∀ k, (F a).ownBlock = some k → w'.heap[k]? = w.heap[k]?) : MemO w' base F m fs n ds :=
 ⟨owns_heap h.words (he 0 (by omega)), h.descO.heap fun a _ ha => he a ha⟩
theorem DescO.weaken {w : World} {base base' : Nat} {F : Nat → Value} {n : Nat} {ds : List DK} (h : DescO w base F n ds) (hb : base' ≤ base) : DescO w base' F n ds := by
 obtain ⟨vs, h1, h2⟩ := h.descs
 exact ⟨h.len, ⟨vs, own_weaken h1 hb, h2⟩, fun i hi => own_weaken (h.ents i hi) hb, fun i hi => own_weaken (h.ints i hi) hb, h.sep⟩
theorem MemO.weaken {w : World} {base base' : Nat} {F : Nat → Value} {m : Nat} {fs : List Int} {n : Nat} {ds : List DK} (h : MemO w base F m fs n ds) (hb : base' ≤ base) : MemO w base' F m fs n ds :=
 ⟨own_weaken h.words hb, h.descO.weaken hb⟩
theorem DescO.at {w : World} {base : Nat} {F : Nat → Value} {n : Nat} {ds : List DK} (h : DescO w base F n ds) (hn : n ≤ 1048576) (hs : Small n ds) : ∃ a c, F 1 = .slice a n c ∧ DescAt w a n ds ∧ CapAt w a n ds := by
 obtain ⟨vs, h1, h2⟩ := h.descs
 rcases owns_forms h1 with ⟨h3, h4⟩ | ⟨g, cap, hv⟩
 · subst h4
   exact ⟨none, 0, h3, ⟨h.len, by omega, .inl rfl⟩, .inl rfl⟩
 · rw [hv] at h1
   refine ⟨_, cap, hv, ⟨h.len, hn, .inr ⟨g, 0, rfl, fun i hi => ?_⟩⟩, .inr ⟨g, 0, rfl, fun i hi => ?_⟩⟩
   · obtain ⟨a0, a1, a2, a3, a4⟩ := h2 i hi
     obtain ⟨ea, ec, e1, _⟩ := owns_slice (h.ents i hi)
     obtain ⟨ra, rc, e2, _⟩ := owns_slice (h.ints i hi)
     have t1 := h.ents i hi
     have t2 := h.ints i hi
     rw [e1] at t1 a2
     rw [e2] at t2 a4
     refine ⟨ea, ec, ra, rc, ⟨?_, ?_, ?_, ?_, ?_⟩, owns_trip t1 (hs i hi).1, owns_ints t2 (hs i hi).2⟩
     · rw [Nat.zero_add]; exact own_cellV h1 a0
     · rw [Nat.zero_add]; exact own_cellV h1 a1
     · rw [Nat.zero_add]; exact own_cellV h1 a2
     · rw [Nat.zero_add]; exact own_cellV h1 a3
     · rw [Nat.zero_add]; exact own_cellV h1 a4
   · obtain ⟨a0, a1, a2, a3, a4⟩ := h2 i hi
     obtain ⟨ea, ec, e1, hc⟩ := owns_slice (h.ents i hi)
     rw [e1] at a2
     exact ⟨ea, ec, by rw [Nat.zero_add]; exact own_cellV h1 a2, hc⟩
theorem MemO.at {w : World} {base : Nat} {F : Nat → Value} {m : Nat} {fs : List Int} {n : Nat} {ds : List DK} (h : MemO w base F m fs n ds) (hm : m ≤ 1048576) : ∃ a c, F 0 = .slice a m c ∧ TripAt w a m fs := by
 obtain ⟨a, c, e, _⟩ := owns_slice h.words
 have t := h.words
 rw [e] at t
 exact ⟨a, c, e, owns_trip t hm⟩
theorem MemO.open {w : World} {base : Nat} {F : Nat → Value} {m : Nat} {fs : List Int} {n : Nat} {ds : List DK} (h : MemO w base F m fs n ds) (hm : m ≤ 1048576) (hn : n ≤ 1048576) (hs : Small n ds) :
   ∃ wa wc da dc, MemF F = MemV wa m wc da n dc ∧ F 0 = .slice wa m wc ∧ F 1 = .slice da n dc ∧ TripAt w wa m fs ∧ DescAt w da n ds ∧ CapAt w da n ds := by
 obtain ⟨wa, wc, e0, t⟩ := h.at hm
 obtain ⟨da, dc, e1, d, c⟩ := h.descO.at hn hs
 exact ⟨wa, wc, da, dc, by rw [MemF, e0, e1], e0, e1, t, d, c⟩
theorem own_emptyT {w : World} {base : Nat} {T : TypeId} {size : Nat} (hb : base ≤ w.heap.size) : (w.alloc (.cells #[] T)).ownsRow base T size (.slice (some ⟨w.heap.size, 0, none⟩) 0 0) 0 [] :=
 ⟨by simp, .inr ⟨w.heap.size, 0, #[], rfl, hb, (by show (w.heap.push _)[w.heap.size]? = _; simp), Nat.le_refl _, by unfold maxLen; omega, by simp, by simp⟩⟩
theorem eql_nil {P : Program} (w : World) {t e : TypeId} {a : Option Addr} {l c : Nat} (h : P.underlying t = some (.slice e)) : (binOp .eql t (.slice a l c) (.slice none 0 0)).run P w = .ok (.bool a.isNone) w := by
 simp [binOp, run_equal_slice_nil w t e a l c h]
theorem cell_alloc {w : World} {q : Addr} {u : Value} {o : Obj} (h : w.cell? q = some u) : (w.alloc o).cell? q = some u := by
 rw [World.cell?_of_block (Below.heap_alloc _ _ _ (World.block_lt_of_cell? w _ h))]
 exact h
theorem int_cell {w : World} {ad : Addr} {n : Nat} {es : List Int} {o : Obj} (h : IntAt w (some ad) n es) {j : Nat} {v : Value} (hj : (es.map I)[j]? = some v) : (w.alloc o).cell? (ad.add j) = some v := by
 refine cell_alloc ?_
 rw [List.getElem?_map] at hj
 have hl : j < es.length := by
   rcases Nat.lt_or_ge j es.length with h1 | h1
   · exact h1
   · rw [List.getElem?_eq_none h1] at hj; cases hj
 rcases h.2.2 with h0 | ⟨b, o, he, g⟩
 · have := h.1; omega
 · cases he
   have h1 := g j (by have := h.1; omega)
   have e : (⟨b, o, none⟩ : Addr).add j = ⟨b, o + j, none⟩ := by simp [Addr.add]
   rw [e, h1]
   rw [List.getElem?_eq_getElem hl] at hj
   simpa [List.getD, hl] using hj
theorem cloneI_o (a : Option Addr) (n c : Nat) (es : List Int) (w : World) (h : IntAt w a n es) (ha : a = none → c = 0) :
   Calls Try.prog 72 #[.slice a n c] w fun e w' => ∃ v, e = .returned v ∧ w'.ownsRow w.heap.size 3 1 v n (es.map I) ∧ Below w.heap.size w w' := by
 obtain ⟨i0, hi, hz0, hz1, hz2⟩ := info_parts infoInt
 rcases a with _ | ad
 · obtain rfl : c = 0 := ha rfl
   obtain rfl : n = 0 := by
     rcases h.2.2 with h0 | ⟨_, _, he, _⟩
     · exact h0
     · cases he
   have HV : Hid ((es.map I) = []) := by
     show _ = []
     rw [show es = [] from List.length_eq_zero_iff.1 (by have := h.1; simpa using this)]; rfl
   have hE : ∀ w : World, (binOp .eql 24 (.slice none 0 0) (.slice none 0 0)).run Try.prog w = .ok (.bool true) w := fun w => eql_nil w Try.underlying24
   clear h ha
   go_enter Try.func72, Try.ntmps72
   go_wp2
   go_ret
   exact ⟨_, rfl, by rw [HV.out]; exact World.ownsRow_nil _ _ _ _, Below.refl _ _⟩
 have hn := h.2.1
 have HS : Hid (((es.map I)).length = n * 1 ∧ (∀ j u, ((es.map I))[j]? = some u → (w.alloc (.cells #[] 3)).cell? (ad.add j) = some u) ∧ ∀ u ∈ (es.map I), u.oneCell' = true) := by
   exact ⟨by rw [List.length_map, h.1]; omega, fun j u hj => int_cell h hj, news_one⟩
 have hE : ∀ w : World, (binOp .eql 24 (.slice (some ad) n c) (.slice none 0 0)).run Try.prog w = .ok (.bool false) w := fun w => eql_nil w Try.underlying24
 clear h ha
 go_enter Try.func72, Try.ntmps72
 go_wp2_with
   (at_builtin
    refine wpList_append_own _ rfl _ _ 24 rfl w.heap.size 3 i0 (.int .i64 0) 1 8 Try.underlying24 hi hz0 hz1 hz2 rfl (by decide) (.slice (some ⟨w.heap.size, 0, none⟩) 0 0) 0 [] rfl (own_emptyT (Nat.le_refl _)) ad n c ((es.map I)) rfl HS.out.1 HS.out.2.1 HS.out.2.2 (by unfold maxLen; omega) (by omega) (by simp) ?_
    intro v' w2 own2 grow2 _)
 have hb2 : Below w.heap.size w w2 := ((Below.refl _ w).alloc (Nat.le_refl _) _).grown grow2 (by simp) (fun k e => by
   have h1 : w.heap.size = k := by simpa [Value.ownBlock] using e
   omega)
 rw [Nat.zero_add, List.nil_append] at own2
 go_ret
 exact ⟨_, rfl, own2, hb2⟩
theorem resAnew_o (code : Int) (a : Option Addr) (n c : Nat) (rs : List Int) (w : World) (h : IntAt w a n rs) (ha : a = none → c = 0) :
   Calls Try.prog 54 #[ResV code a n c] w fun e w' => ∃ v, e = .returned (.agg #[.int .i64 code, v]) ∧ w'.ownsRow w.heap.size 3 1 v n (rs.map I) ∧ Below w.heap.size w w' := by
 obtain ⟨W, hW⟩ : ∃ W, ((w.alloc (.cells #[.int .i64 code, .slice a n c] 32)).alloc (.cells #[.int .i64 0, .slice none 0 0] 32)) = W := ⟨_, rfl⟩
 have hb0 : Below w.heap.size w W := by rw [← hW]; exact ((Below.refl _ w).alloc (Nat.le_refl _) _).alloc (by simp) _
 have hsz : w.heap.size + 1 < W.heap.size := by rw [← hW]; simp
 have X0 : Hid (Box W w.heap.size #[.int .i64 code, .slice a n c] 32) := by rw [← hW]; exact (box_of w _ _).alloc _
 have R0 : Hid (Box W (w.heap.size + 1) #[.int .i64 0, .slice none 0 0] 32) := by
   have := box_of (w.alloc (.cells #[.int .i64 code, .slice a n c] 32)) #[.int .i64 0, .slice none 0 0] 32
   rw [hW] at this
   show Box _ _ _ _
   simpa using this
 have HA : Hid (IntAt W a n rs) := h.below hb0 (Nat.le_refl _)
 have HB0 : Hid (Below w.heap.size w W) := hb0
 have HW : Hid (((w.alloc (.cells #[.int .i64 code, .slice a n c] 32)).alloc (.cells #[.int .i64 0, .slice none 0 0] 32)) = W) := hW
 have HAN : Hid (a = none → c = 0) := ha
 obtain ⟨k0, k1, _, _⟩ := X0.out.two
 have K0 : Hid (W.drew.cell? ⟨w.heap.size, 0, none⟩ = some (.int .i64 code) ∧ W.drew.cell? ⟨w.heap.size, 1, none⟩ = some (.slice a n c)) := ⟨k0, k1⟩
 clear h ha hW hb0 k0 k1
 go_enter Try.func54, Try.ntmps54
 go_wp2_with fail
 rw [HW.out]
 go_region_held3 (fun w' => w'.cell? ⟨w.heap.size, 0, none⟩ = some (.int .i64 code) ∧ w'.cell? ⟨w.heap.size, 1, none⟩ = some (.slice a n c))
   (first | (with_reducible exact K2.out) | (with_reducible exact K1.out) | (with_reducible exact K0.out) | go_keep)
   (first
   | (go_at_call 72
      refine (cloneI_o a n c rs _ (HA.out.below (Below.refl W.heap.size W).drew (Nat.le_refl _)) HAN.out).mono ?_
      rintro e w1 ⟨v, rfl, own1, hb1⟩
      have hb1' : Below W.heap.size W w1 := (Below.refl W.heap.size W).drew.trans hb1
      obtain ⟨va, vc, rfl, _⟩ := owns_slice own1
      have OW : Hid (w1.ownsRow W.heap.size 3 1 (.slice va n vc) n (rs.map I)) := own1
      have HB1 : Hid (Below W.heap.size W w1) := hb1'
      have R1 : Hid (Box w1 (w.heap.size + 1) #[.int .i64 0, .slice none 0 0] 32) := R0.out.below hb1' hsz
      obtain ⟨r0, r1, z0, z1⟩ := R1.out.two
      obtain ⟨k0, k1, _, _⟩ := (X0.out.below hb1' X0.out.lt).two
      have K1 : Hid (w1.cell? ⟨w.heap.size, 0, none⟩ = some (.int .i64 code) ∧ w1.cell? ⟨w.heap.size, 1, none⟩ = some (.slice a n c)) := ⟨k0, k1⟩
      have K2 : Hid (((w1.setCell ⟨w.heap.size + 1, 0, none⟩ (.int .i64 code)).setCell ⟨w.heap.size + 1, 1, none⟩ (.slice va n vc)).cell? ⟨w.heap.size, 0, none⟩ = some (.int .i64 code) ∧ ((w1.setCell ⟨w.heap.size + 1, 0, none⟩ (.int .i64 code)).setCell ⟨w.heap.size + 1, 1, none⟩ (.slice va n vc)).cell? ⟨w.heap.size, 1, none⟩ = some (.slice a n c)) := by
        have := (((X0.out.below hb1' X0.out.lt).set (q := ⟨w.heap.size + 1, 0, none⟩) (show w.heap.size ≠ w.heap.size + 1 by omega) (.int .i64 code)).set (q := ⟨w.heap.size + 1, 1, none⟩) (show w.heap.size ≠ w.heap.size + 1 by omega) (.slice va n vc)).two
        exact ⟨this.1, this.2.1⟩
      clear own1 hb1 hb1' k0 k1))
 obtain ⟨e0, e1, _, _⟩ := ((R1.out.put 0 (.int .i64 code)).put 1 (.slice va n vc)).two
 go_wp2
 (try simp only [Exit.inBlock, Exit.then])
 refine bodyPost_ret (by simp [results, Try.results54, go_sem, e0, e1]; try rfl) rfl ?_
 have hwb : (Value.slice va n vc).ownBlock ≠ some (w.heap.size + 1) := fun e => by have := (OW.out.lt _ e).1; omega
 exact ⟨.slice va n vc, rfl, own_setCell_far (own_setCell_far (own_weaken OW.out HB0.out.size) hwb _) hwb _, ((HB0.out.trans (HB1.out.mono HB0.out.size)).setCell (by simp) _).setCell (by simp) _⟩
end
end Go.Proofs.Ytecheopkfhfgkaa
