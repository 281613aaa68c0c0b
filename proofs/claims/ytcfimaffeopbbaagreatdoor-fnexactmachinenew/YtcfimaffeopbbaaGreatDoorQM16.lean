/- Texts joined: SpecCopy, InvReg, Copy8, Spec8, LawTH0, AppAt, KeyOk. -/
import Derived.Test.YtcfimaffeopbbaaGreatDoorQM01
import Derived.Test.YtcfimaffeopbbaaGreatDoorQM03
import Derived.Deep.RegionHeld3
import Derived.Maps.AppendAt
import Derived.Laws.AppendOwnNone
import Derived.Test.YtcfimaffeopbbaaGreatDoorQM12
import Derived.Test.YtcfimaffeopbbaaGreatDoorRows
import Derived.WalkKit
import Derived.ProofKit
set_option maxHeartbeats 1000000
set_option maxRecDepth 100000
namespace Go.Proofs.YtcfimaffeopbbaaGreatDoor
section
open Go.ChangeShapes Go.WideShapes Go.ChangeAt Go.RowKit
theorem l3Copy_any (p o n cp : Nat) (st : Int) (xs : List Int) (w : World) (hA : IntAt w (some ⟨p, o, none⟩) n xs) :
   Calls Tryz.prog 20 #[.agg #[.slice (some ⟨p, o, none⟩) n cp, .int .i64 st]] w fun e w' => ∃ (a' : Option Addr) (c' : Nat), e = .returned (.agg #[.slice a' n c', .int .i64 st]) ∧ w'.ownsRow (w.heap.size + 1 + 1) 3 1 (.slice a' n c') n (xs.map I) ∧ Below w.heap.size w w' := by
 obtain ⟨i0, hi, hz0, hz1, hz2⟩ := info_parts infoInt
 have HA : Hid (IntAt w (some ⟨p, o, none⟩) n xs) := hA
 have HL : Hid (xs.length = n) := hA.1
 have hn := hA.2.1
 clear hA
 go_enter Tryz.func20, Tryz.ntmps20
 go_wp2_with fail
 have HB0 : Hid (Below w.heap.size w ((w.alloc (.cells #[.slice (some ⟨p, o, none⟩) n cp, .int .i64 st] 34)).alloc (.cells #[.slice none 0 0, .int .i64 0] 34))) := ((Below.refl _ w).alloc (Nat.le_refl _) _).alloc (by simp) _
 have HG := (HA.out.below HB0.out (Nat.le_refl _)).cells
 have HG1 : Hid _ := HG
 clear HG
 go_region_law
   (refine step_append_own _ (by rfl) _ _ 22 (by rfl) (w.heap.size + 1 + 1) 3 i0 (.int .i64 0) 1 8 Tryz.underlying22 hi hz0 hz1 hz2 (by rfl) (by decide) (.slice (some ⟨w.heap.size + 1 + 1, 0, none⟩) 0 0) 0 [] (by rfl) (own_empty_drew (by simp) (by omega)) ⟨p, o, none⟩ n cp (xs.map I) (by rfl) (news_len HL.out) (news_at_drew HL.out HG1.out) news_one (by unfold maxLen; omega) (by omega) (by simp) ?_
    intro v' w' hown hgrow _
    have hown2 : w'.ownsRow (w.heap.size + 1 + 1) 3 1 v' n (xs.map I) := by simpa using hown
    obtain ⟨a', c', rfl, hat⟩ := own_at hown2 hn
    have HOWN : Hid (w'.ownsRow (w.heap.size + 1 + 1) 3 1 (.slice a' n c') n (xs.map I)) := hown2
    clear hown hown2 hat
    have hbx := below_appended_drew (Below.refl (w.heap.size + 1 + 1) _) (by simp) (by simp) hgrow
    have r1 : w'.cell? ⟨w.heap.size, 1, none⟩ = some (.int .i64 st) := (hbx.cell (show w.heap.size < w.heap.size + 1 + 1 by omega)).trans (by simp [World.cell?_alloc_past, World.cell?_alloc_at])
    have r2 : w'.cell? ⟨w.heap.size + 1, 0, none⟩ = some (.slice none 0 0) := (hbx.cell (show w.heap.size + 1 < w.heap.size + 1 + 1 by omega)).trans (by simp [World.cell?_alloc_at])
    have r3 : w'.cell? ⟨w.heap.size + 1, 1, none⟩ = some (.int .i64 0) := (hbx.cell (show w.heap.size + 1 < w.heap.size + 1 + 1 by omega)).trans (by simp [World.cell?_alloc_at])
    have r4 : w'.frozen? ⟨w.heap.size + 1, 0, none⟩ = false := (hbx.frozen (show w.heap.size + 1 < w.heap.size + 1 + 1 by omega)).trans (by simp [World.frozen?_alloc_at])
    have r5 : w'.frozen? ⟨w.heap.size + 1, 1, none⟩ = false := (hbx.frozen (show w.heap.size + 1 < w.heap.size + 1 + 1 by omega)).trans (by simp [World.frozen?_alloc_at]))
 all_goals
   have HBX : Hid (Below w.heap.size w w') := HB0.out.trans (hbx.mono (by omega))
   clear hbx hgrow
   go_wp2
   (try simp only [Exit.inBlock, Exit.then])
   refine bodyPost_ret (by simp [results, Tryz.results20, go_sem, r2, r3]; try rfl) rfl ?_
   exact ⟨a', c', rfl, ownsRow_setCell_below (ownsRow_setCell_below HOWN.out (by simp) _) (by simp) _, (HBX.out.setCell (by simp) _).setCell (by simp) _⟩
section
variable {P : Program} {ops : Array Oper} {Q : Exit → Act → World → Prop} {S : World → Prop} {R : Array Bool → Act → World → Prop} {z : Nat}
def StepAll (P : Program) (ops : Array Oper) (Q : Exit → Act → World → Prop) (R : Array Bool → Act → World → Prop) (rs : List Nat) : Prop :=
 ∀ i ∈ rs, ∀ l a w, R l a w → l.getD i true = false → (∀ o, ops[i]? = some o → ∀ e ∈ o.after, Region.binds .any e = true → l.getD e.on false = true) → wpOp P ops Q i (fun a' w' => R (l.setIfInBounds i true) a' w') a w
theorem StepAll.nil : StepAll P ops Q R [] := fun _ h => by cases h
theorem StepAll.skip {i : Nat} {rs : List Nat} (h : ∀ l a w, R l a w → l.getD i true = true) (hs : StepAll P ops Q R rs) : StepAll P ops Q R (i :: rs) := fun j hj => by
 rcases List.mem_cons.1 hj with rfl | hj
 · intro l a w hR hf _
   rw [h l a w hR] at hf
   cases hf
 · exact hs j hj
theorem StepAll.cons {i : Nat} {o : Oper} {rs : List Nat} (ho : ops[i]? = some o)
   (h : ∀ (K : Act → World → Prop) l a w, R l a w → l.getD i true = false → (∀ e ∈ o.after, Region.binds .any e = true → l.getD e.on false = true) → Shut (∀ a' w', R (l.setIfInBounds i true) a' w' → K a' w') →
     if Region.wanted o (yielded ops a.tmps) = true then Oper.wp P o a w K Q else K (a.put o.dst undef) w)
   (hs : StepAll P ops Q R rs) : StepAll P ops Q R (i :: rs) := fun j hj => by
 rcases List.mem_cons.1 hj with rfl | hj
 · intro l a w hR hf he
   exact wpOp_step ho fun K hK => h K l a w hR hf (he o ho) (fun a' w' h' => hK a' w' h')
 · exact hs j hj
def upward (ops : Array Oper) : Bool := (List.range ops.size).all fun i => ((ops[i]?).map (fun o => o.after.all fun e => !Region.binds .any e || decide (e.on < i))).getD true
def unlisted (l : Array Bool) : Nat := l.toList.count false
theorem getD_set_self {l : Array Bool} {i : Nat} (h : i < l.size) : (l.setIfInBounds i true).getD i false = true := by simp [Array.getD_eq_getD_getElem?, h]
def closedB (ops : Array Oper) (l : Array Bool) : Bool := (List.range ops.size).all fun i => !l.getD i false || ((ops[i]?).map (fun o => o.after.all fun e => !Region.binds .any e || l.getD e.on false)).getD true
def Closed (ops : Array Oper) (l : Array Bool) : Prop := ∀ i o, ops[i]? = some o → l.getD i false = true → ∀ e ∈ o.after, Region.binds .any e = true → l.getD e.on false = true
theorem getD_mono {l : Array Bool} {i j : Nat} (h : l.getD j false = true) : (l.setIfInBounds i true).getD j false = true := by
 by_cases hij : i = j
 · subst hij
   have hi : i < l.size := by
     rcases Nat.lt_or_ge i l.size with h1 | h1
     · exact h1
     · rw [Array.getD_eq_getD_getElem?, Array.getElem?_eq_none h1] at h; cases h
   exact getD_set_self hi
 · rw [getD_set_ne false hij]; exact h
theorem Closed.step {l : Array Bool} {i : Nat} {o : Oper} (h : Closed ops l) (ho : ops[i]? = some o) (he : ∀ e ∈ o.after, Region.binds .any e = true → l.getD e.on false = true) : Closed ops (l.setIfInBounds i true) := by
 intro j oj hoj hl e hej hb
 by_cases hij : i = j
 · subst hij
   rw [ho] at hoj
   cases hoj
   exact getD_mono (he e hej hb)
 · rw [getD_set_ne false hij] at hl
   exact getD_mono (h j oj hoj hl e hej hb)
def edgeB (ops : Array Oper) (j i : Nat) : Bool := ((ops[j]?).map (fun o => o.after.any fun e => Region.binds .any e && e.on == i)).getD false
def waits (ops : Array Oper) (z : Nat) : Bool := (List.range ops.size).all fun i => i == z || edgeB ops z i || (List.range ops.size).any fun j => edgeB ops z j && edgeB ops j i
end
theorem wp_append_any {P : Program} {o : Oper} {a : Act} (w : World) {K : Act → World → Prop} {Q : Exit → Act → World → Prop} (s x : Operand) (t : TypeId)
   (ho : o.op = .call { callee := .builtin .append, args := #[s, x], argTypes := #[t, t] })
   (base : Nat) (e : TypeId) (i : TypeInfo) (z : Value) (size bytes : Nat) (ht : P.underlying t = some (.slice e)) (hi : P.info? e = some i) (hz : i.zero = some z)
   (hsize : i.size = size) (hby : i.bytes = bytes) (hzs : z.cells.size = size) (hsz : 0 < size)
   (v : Value) (n : Nat) (xs : List Value) (hs : a.eval s = v) (hown : w.ownsRow base e size v n xs)
   (ad : Option Addr) (m c : Nat) (fs : List Int) (hx : a.eval x = .slice ad m c) (hc : ad = none → c = 0) (hA : KAt size w ad m fs)
   (h63 : n + m ≤ maxLen) (hbytes : (n + m) * bytes ≤ 140737488355328) (hbase : base ≤ w.heap.size)
   (h : ∀ v' w', w'.ownsRow base e size v' (n + m) (xs ++ fs.map I) → w.grownBy w' v.ownBlock → (v'.ownBlock = v.ownBlock ∨ v'.ownBlock = some w.heap.size) → K (a.put o.dst v') w') :
   Oper.wp P o a w K Q := by
 cases ad with
 | none =>
   obtain ⟨rfl, rfl⟩ := hA.nilE
   obtain rfl : c = 0 := hc rfl
   have hrun := run_append_owned_none (P := P) (w := w) base t o.type e i size ht hi v n xs hown
   unfold Oper.wp
   simp [execOp, ho, resolve, invoke, builtin, hs, hx, hrun, Result.andThen]
   exact h v w (by simpa using hown) ⟨rfl, rfl, rfl, Nat.le_refl _, fun _ _ _ => rfl⟩ (.inl rfl)
 | some ad =>
   obtain ⟨v', w', hr, h2, h3, _, h5⟩ := run_append_own_at (P := P) w base t o.type e i z size bytes ht hi hz hsize hby hzs hsz v n xs hown ad m c (fs.map I) (by rw [List.length_map]; exact hA.1) hA.src newsK h63 hbytes hbase
   unfold Oper.wp execOp
   simp only [ho, resolve, invoke, builtin, Sem.run_bind, Sem.run_pure, Result.andThen_ok, List.map_toArray, List.map_cons, List.map_nil, hs, hx, hr]
   exact h v' w' h2 h3 h5
theorem wpList_append_any {P : Program} {ops : Array Oper} {rest : List Oper} {o : Oper} {a : Act} (w : World) {Q : Exit → Act → World → Prop} (hg : o.guard = none) (s x : Operand) (t : TypeId)
   (ho : o.op = .call { callee := .builtin .append, args := #[s, x], argTypes := #[t, t] })
   (base : Nat) (e : TypeId) (i : TypeInfo) (z : Value) (size bytes : Nat) (ht : P.underlying t = some (.slice e)) (hi : P.info? e = some i) (hz : i.zero = some z)
   (hsize : i.size = size) (hby : i.bytes = bytes) (hzs : z.cells.size = size) (hsz : 0 < size)
   (v : Value) (n : Nat) (xs : List Value) (hs : a.eval s = v) (hown : w.ownsRow base e size v n xs)
   (ad : Option Addr) (m c : Nat) (fs : List Int) (hx : a.eval x = .slice ad m c) (hc : ad = none → c = 0) (hA : KAt size w ad m fs)
   (h63 : n + m ≤ maxLen) (hbytes : (n + m) * bytes ≤ 140737488355328) (hbase : base ≤ w.heap.size)
   (h : ∀ v' w', w'.ownsRow base e size v' (n + m) (xs ++ fs.map I) → w.grownBy w' v.ownBlock → (v'.ownBlock = v.ownBlock ∨ v'.ownBlock = some w.heap.size) → wpList P ops Q rest (a.put o.dst v') w') :
   wpList P ops Q (o :: rest) a w :=
 wpList_plain hg fun _ hK => wp_append_any w s x t ho base e i z size bytes ht hi hz hsize hby hzs hsz v n xs hs hown ad m c fs hx hc hA h63 hbytes hbase fun v' w' h2 h3 h4 => hK _ _ (h v' w' h2 h3 h4)
end
section
open Go.ChangeShapes Go.WideShapes Go.ChangeAt Go.RowKit Go.Joins
structure Way (T : TypeId) (k : Nat) (base n : Nat) (fs : List Int) (w : World) (b d : Bool) (s s' x : Value) : Prop where
 own : w.ownsRow base T k x (if d then n else 0) (if d then fs.map I else [])
 bd : d = true → b = true
 nil : b = false → x = .slice none 0 0
 e0 : b = true → d = false → s = x
 e1 : d = true → s' = x
theorem Way.heap {T : TypeId} {k base n : Nat} {fs : List Int} {w w' : World} {b d : Bool} {s s' x : Value} (h : Way T k base n fs w b d s s' x) (he : ∀ q, x.ownBlock = some q → w'.heap[q]? = w.heap[q]?) : Way T k base n fs w' b d s s' x :=
 ⟨owns_heap h.own he, h.bd, h.nil, h.e0, h.e1⟩
theorem Way.made {T : TypeId} {k base n : Nat} {fs : List Int} {w : World} {b d : Bool} {s s' x : Value} (h : Way T k base n fs w b d s s' x) (hb : b = false) (hB : base ≤ w.heap.size) :
   Way T k base n fs (w.alloc (.cells #[] T)) true d (.slice (some ⟨w.heap.size, 0, none⟩) 0 0) s' (.slice (some ⟨w.heap.size, 0, none⟩) 0 0) := by
 have hd : d = false := by
   cases d with
   | false => rfl
   | true => have := h.bd rfl; rw [hb] at this; cases this
 subst hd
 exact ⟨own_emptyK hB, (fun h => by cases h), (fun h => by cases h), fun _ _ => rfl, (fun h => by cases h)⟩
theorem Way.filled {T : TypeId} {k base n : Nat} {fs : List Int} {w w' : World} {d : Bool} {s s' x v' : Value} (_h : Way T k base n fs w true d s s' x) (ho : w'.ownsRow base T k v' n (fs.map I)) : Way T k base n fs w' true true s v' v' :=
 ⟨ho, fun _ => rfl, (fun h => by cases h), (fun _ h => by cases h), fun _ => rfl⟩
structure CI (W : World) (n0 : Nat) (fs : List Int) (n1 : Nat) (gs : List Int) (n2 : Nat) (hs : List Int) (pc : Int) (on : Bool) (b0 b3 b8 b11 b12 b15 b16 : Bool) (s3 s6 s11 s14 s15 s18 s19 x1 x2 x3 : Value) (w : World) : Prop where
 bel : Below W.heap.size W w
 w1 : Way 82 3 W.heap.size n0 fs w b0 b3 s3 s6 x1
 w2 : Way 115 2 W.heap.size n1 gs w b8 b11 s11 s14 x2
 w3 : Way 117 4 W.heap.size n2 hs w b12 b15 s15 s18 x3
 sep : Sep3 x1 x2 x3
 all : b16 = true → b3 = true ∧ b11 = true ∧ b15 = true
 val : b16 = true → s19 = ThV x1 x2 x3 pc on
def CR (W : World) (sz : Nat) (a0 a1 a2 : Option Addr) (c0 c1 c2 : Nat) (n0 : Nat) (fs : List Int) (n1 : Nat) (gs : List Int) (n2 : Nat) (hs : List Int) (pc : Int) (on : Bool) (l : Array Bool) (a : Act) (w : World) : Prop :=
 ∃ (b0 b3 b8 b11 b12 b15 b16 : Bool) (s3 s6 s11 s14 s15 s18 s19 x1 x2 x3 : Value), l = #[b0, true, true, b3, true, true, true, true, b8, true, true, b11, b12, true, true, b15, b16, false] ∧ a = ⟨#[ThV (.slice a0 n0 c0) (.slice a1 n1 c1) (.slice a2 n2 c2) pc on, .pointer (some ⟨sz, 0, none⟩), .pointer (some ⟨sz + 1, 0, none⟩), s3, .pointer (some ⟨sz, 0, none⟩), .slice a0 n0 c0, s6, .pointer (some ⟨sz, 1, none⟩), .int .i64 pc, .pointer (some ⟨sz, 2, none⟩), .bool on, s11, .pointer (some ⟨sz, 3, none⟩), .slice a1 n1 c1, s14, s15, .pointer (some ⟨sz, 4, none⟩), .slice a2 n2 c2, s18, s19], []⟩ ∧ CI W n0 fs n1 gs n2 hs pc on b0 b3 b8 b11 b12 b15 b16 s3 s6 s11 s14 s15 s18 s19 x1 x2 x3 w
abbrev HelpV (h : Nat → Int) : Value := .agg #[.int .i64 (h 0), .int .i64 (h 1), .int .i64 (h 2), .int .i64 (h 3)]
abbrev helpL (h : Nat → Int) : List Int := [h 0, h 1, h 2, h 3]
def TD.top (t : TD) : Nat → Int := fun i => t.hs.getD ((t.n2 - 1) * 4 + i) 0
def TD.topV (t : TD) : Value := if t.n2 = 0 then HelpV (fun _ => 0) else HelpV t.top
def TD.push (t : TD) (h : Nat → Int) : TD := { t with n2 := t.n2 + 1, hs := t.hs ++ helpL h }
def TD.swap (t : TD) (h : Nat → Int) : TD := if t.n2 = 0 then t else { t with hs := t.hs.take ((t.n2 - 1) * 4) ++ helpL h }
def TD.pop (t : TD) : TD := { t with n2 := t.n2 - 1, hs := t.hs.take ((t.n2 - 1) * 4) }
theorem ThO.set5 {w : World} {base : Nat} {v0 v1 v2 : Value} {t : TD} (h : ThO w base v0 v1 v2 t) {b : Nat} (hb : ¬ In3 v0 v1 v2 b) (x0 x1 x2 x3 x4 : Value) :
   ThO (((((w.setCell ⟨b, 0, none⟩ x0).setCell ⟨b, 1, none⟩ x1).setCell ⟨b, 2, none⟩ x2).setCell ⟨b, 3, none⟩ x3).setCell ⟨b, 4, none⟩ x4) base v0 v1 v2 t :=
 ((((h.set (q := ⟨b, 0, none⟩) hb x0).set (q := ⟨b, 1, none⟩) hb x1).set (q := ⟨b, 2, none⟩) hb x2).set (q := ⟨b, 3, none⟩) hb x3).set (q := ⟨b, 4, none⟩) hb x4
theorem below_set5 {B : Nat} {w w' : World} (h : Below B w w') {b : Nat} (hb : B ≤ b) (x0 x1 x2 x3 x4 : Value) :
   Below B w (((((w'.setCell ⟨b, 0, none⟩ x0).setCell ⟨b, 1, none⟩ x1).setCell ⟨b, 2, none⟩ x2).setCell ⟨b, 3, none⟩ x3).setCell ⟨b, 4, none⟩ x4) :=
 ((((h.setCell hb x0).setCell hb x1).setCell hb x2).setCell hb x3).setCell hb x4
theorem specNewT_any (v : Value) (n : Nat) (fs : List Int) (w : World) (h : LAt 3 w v n fs) :
   Calls Tryz.prog 21 #[v] w (ThAns w ⟨n, fs, 0, false, 0, [], 0, []⟩) := by
 obtain ⟨a, c, rfl, hc, hA⟩ := h
 have hn := hA.2.1
 have HC : Hid (a = none → c = 0) := hc.1
 clear hc
 obtain ⟨i0, hi0, hz0, hz1, hz2⟩ := info_parts kInfoOp
 obtain ⟨sz, hsz⟩ : ∃ sz, w.heap.size = sz := ⟨_, rfl⟩
 obtain ⟨W, hW⟩ : ∃ W, w.alloc (.cells #[.slice none 0 0, .int .i64 0, .bool false, .slice none 0 0, .slice none 0 0] 59) = W := ⟨_, rfl⟩
 have hWs : W.heap.size = sz + 1 := by rw [← hW, ← hsz]; simp
 have hb0 : Below sz w W := by rw [← hW, ← hsz]; exact (Below.refl _ w).alloc (Nat.le_refl _) _
 have R0 : Hid (Box W sz #[.slice none 0 0, .int .i64 0, .bool false, .slice none 0 0, .slice none 0 0] 59) := by rw [← hW, ← hsz]; exact box_of w _ _
 have HW : Hid _ := hW
 have HSZ : Hid (w.heap.size = sz) := hsz
 have HB0 : Hid (Below sz w W) := hb0
 have HWS : Hid (W.heap.size = sz + 1) := hWs
 have HK : Hid (KAt 3 (W.alloc (.cells #[] 82)) a n fs) := (hA.below hb0 (by omega)).below ((Below.refl W.heap.size W).alloc (Nat.le_refl _) _) (Nat.le_refl _)
 have HWw : Hid (w.alloc (.cells #[.slice none 0 0, .int .i64 0, .bool false, .slice none 0 0, .slice none 0 0] 59) = W) := hW
 subst hW
 clear hA hb0 hsz hWs
 go_enter Tryz.func21, Tryz.ntmps21
 go_wp2_with
   (at_builtin
    refine wpList_append_any _ rfl _ _ 55 rfl (w.heap.size + 1) 82 i0 (.agg #[.int .i64 0, .int .i64 0, .int .i64 0]) 3 24 Tryz.underlying55 hi0 hz0 hz1 hz2 rfl (by decide) (.slice (some ⟨w.heap.size + 1, 0, none⟩) 0 0) 0 [] rfl (by have := own_emptyK (w := w.alloc (.cells #[.slice none 0 0, .int .i64 0, .bool false, .slice none 0 0, .slice none 0 0] 59)) (base := w.heap.size + 1) (T := 82) (size := 3) (by simp); simpa using this) a n c fs rfl HC.out HK.out (by unfold maxLen; omega) (by omega) (by simp) ?_
    intro v' w1 own' gr at'
    rw [Nat.zero_add, List.nil_append] at own'
    obtain ⟨p, d, rfl, -⟩ := owns_slice own'
    have HO : Hid (w1.ownsRow (w.heap.size + 1) 82 3 (.slice p n d) n (fs.map I)) := own'
    have hb1 : Below (w.heap.size + 1) ((w.alloc (.cells #[.slice none 0 0, .int .i64 0, .bool false, .slice none 0 0, .slice none 0 0] 59)).alloc (.cells #[] 82)) w1 := (Below.refl _ _).grown gr (by simp only [World.size_alloc]; omega) (fun k e => by have := sl_blk e; omega)
    have hb2 : Below (w.heap.size + 1) (w.alloc (.cells #[.slice none 0 0, .int .i64 0, .bool false, .slice none 0 0, .slice none 0 0] 59)) w1 := ((Below.refl _ _).alloc (by simp) _).trans hb1
    have HB1 : Hid (Below (w.heap.size + 1) (w.alloc (.cells #[.slice none 0 0, .int .i64 0, .bool false, .slice none 0 0, .slice none 0 0] 59)) w1) := hb2
    obtain ⟨u0, u1, u2, u3, u4, f0, f1, f2, f3, f4⟩ := (Box.below (show Box (w.alloc (.cells #[.slice none 0 0, .int .i64 0, .bool false, .slice none 0 0, .slice none 0 0] 59)) w.heap.size #[.slice none 0 0, .int .i64 0, .bool false, .slice none 0 0, .slice none 0 0] 59 from box_of w _ _) hb2 (by omega)).five
    clear own' gr at' hb1 hb2)
 (try simp only [Exit.inBlock, Exit.then])
 have X : Box w1 w.heap.size #[.slice none 0 0, .int .i64 0, .bool false, .slice none 0 0, .slice none 0 0] 59 := Box.below (box_of w _ _) HB1.out (by omega)
 obtain ⟨z0, z1, z2, z3, z4, _⟩ := (((((X.put 0 (.slice p n d)).put 1 (.int .i64 0)).put 2 (.bool false)).put 3 (.slice none 0 0)).put 4 (.slice none 0 0)).five
 refine bodyPost_ret (by simp [results, Tryz.results21, go_sem, z0, z1, z2, z3, z4]; try rfl) rfl ?_
 have nin : ¬ In3 (.slice p n d) (.slice none 0 0) (.slice none 0 0) w.heap.size := by
   rintro (e | e | e)
   · have := (HO.out.lt _ e).1; omega
   · cases e
   · cases e
 have tO : ThO w1 w.heap.size (.slice p n d) (.slice none 0 0) (.slice none 0 0) ⟨n, fs, 0, false, 0, [], 0, []⟩ := ⟨own_weaken HO.out (by omega), World.ownsRow_nil _ _ _ _, World.ownsRow_nil _ _ _ _, (fun _ _ e => by cases e), (fun _ _ e => by cases e), (fun _ e => by cases e)⟩
 exact ⟨_, _, _, rfl, tO.set5 nin _ _ _ _ _, below_set5 (((Below.refl _ w).alloc (Nat.le_refl _) _).trans (HB1.out.mono (by omega))) (Nat.le_refl _) _ _ _ _ _⟩
end
theorem wp_cut {P : Program} {code : Code} {K : Act → World → Prop} {a : Act} {w : World} {Q : Exit → Act → World → Prop} (hreg : code.wp P (Exit.then K (fun _ _ _ => False)) a w) (hrest : ∀ a' w', K a' w' → Q .normal a' w') : code.wp P Q a w := by
 refine Code.wp_mono ?_ hreg
 intro e a' w' h
 cases e with
 | normal => exact hrest a' w' h
 | _ => exact h.elim
section
open Go.ChangeShapes Go.WideShapes Go.ChangeAt Go.RowKit
theorem wp_append_at {P : Program} {o : Oper} {a : Act} (w : World) {K : Act → World → Prop} {Q : Exit → Act → World → Prop} (s x : Operand) (t : TypeId)
   (ho : o.op = .call { callee := .builtin .append, args := #[s, x], argTypes := #[t, t] })
   (base : Nat) (e : TypeId) (i : TypeInfo) (z : Value) (size bytes : Nat) (ht : P.underlying t = some (.slice e)) (hi : P.info? e = some i) (hz : i.zero = some z)
   (hsize : i.size = size) (hby : i.bytes = bytes) (hzs : z.cells.size = size) (hsz : 0 < size)
   (v : Value) (n : Nat) (xs : List Value) (hs : a.eval s = v) (hown : w.ownsRow base e size v n xs)
   (ad : Addr) (m c : Nat) (news : List Value) (hx : a.eval x = .slice (some ad) m c) (hl : news.length = m * size) (hnews : ∀ j u, news[j]? = some u → w.cell? (ad.add j) = some u) (h1 : ∀ u ∈ news, u.oneCell' = true)
   (h63 : n + m ≤ maxLen) (hbytes : (n + m) * bytes ≤ 140737488355328) (hbase : base ≤ w.heap.size)
   (h : ∀ v' w', w'.ownsRow base e size v' (n + m) (xs ++ news) → w.grownBy w' v.ownBlock → (v'.ownBlock = v.ownBlock ∨ v'.ownBlock = some w.heap.size) → K (a.put o.dst v') w') :
   Oper.wp P o a w K Q := by
 obtain ⟨v', w', hr, h2, h3, _, h5⟩ := run_append_own_at (P := P) w base t o.type e i z size bytes ht hi hz hsize hby hzs hsz v n xs hown ad m c news hl hnews h1 h63 hbytes hbase
 unfold Oper.wp execOp
 simp only [ho, resolve, invoke, builtin, Sem.run_bind, Sem.run_pure, Result.andThen_ok, List.map_toArray, List.map_cons, List.map_nil, hs, hx, hr]
 exact h v' w' h2 h3 h5
theorem five_at (w : World) (x0 x1 x2 x3 x4 : Value) (t : TypeId) : ∀ (j : Nat) (u : Value), [x0, x1, x2, x3, x4][j]? = some u → (w.alloc (.cells #[x0, x1, x2, x3, x4] t)).cell? ((⟨w.heap.size, 0, none⟩ : Addr).add j) = some u := by
 intro j u hj
 have hx := (box_of w #[x0, x1, x2, x3, x4] t).cell j
 have e : (⟨w.heap.size, 0, none⟩ : Addr).add j = ⟨w.heap.size, j, none⟩ := by simp [Addr.add]; omega
 rw [e, hx]
 simpa using hj

end
end Go.Proofs.YtcfimaffeopbbaaGreatDoor
