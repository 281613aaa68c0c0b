/- Texts joined: ToldC, CasD, InvReg, ResN, SpecTh, SpecCa, SpecCs, SpecTo. -/
import Derived.Test.YtecheopkfhfgkaaGreatLN04
import Derived.Test.YtecheopkfhfgkaaGreatLN02
import Derived.Deep.RegionHeld3
import Derived.Maps.AppendAt
import Derived.Laws.AppendOwnNone
import Derived.Test.YtecheopkfhfgkaaGreatLN03
import Derived.Test.YtecheopkfhfgkaaGreatLN01
set_option maxHeartbeats 8000000
set_option maxRecDepth 100000
namespace Go.Proofs.YtecheopkfhfgkaaGreat
section
open Go.ChangeShapes Go.WideShapes Go.ChangeAt Go.RowKit Go.Joins
def tcN (L : List CaR) (i : Nat) : CaR := L.getD i (⟨0, 0, 0, 0, 0, 0, 0, 0⟩, [])
def tcF (L : List CaR) : Nat → CaD := fun i => (tcN L i).1
def tcR (L : List CaR) : Nat → List Int := fun i => (tcN L i).2
def LinM (f : Nat → CaD) (rs : Nat → List Int) (m : Nat) (xs : List Int) (st : Int) : Prop := OkRows xs st ∧ m ≤ 7 ∧ GoM (tcF (toldL f rs m)) (tcR (toldL f rs m)) (toldL f rs m).length (toldL f rs m).length (fun _ => false) xs st
theorem row_told : ∀ {L : List CaR} {i : Nat}, i < L.length → row (toldC L) 9 i = caCel (tcN L i)
  | [], i, h => by simp at h
  | x :: L, 0, h => by
    unfold row toldC
    rw [List.flatMap_cons, Nat.zero_mul, List.drop_zero, List.take_left' (by simp [caCel])]
    rfl
  | x :: L, i + 1, h => by
    have ih := row_told (L := L) (i := i) (by simpa using h)
    unfold row toldC at ih ⊢
    rw [List.flatMap_cons, show (i + 1) * 9 = (caCel x).length + i * 9 by simp [caCel]; omega, ← List.drop_drop, List.drop_left, ih]
    simp [tcN]
theorem nums_map (fs : List Int) : nums (fs.map Cel.i) = fs := by
  unfold nums
  rw [List.map_map]
  exact (List.map_congr_left (fun x _ => rfl)).trans (List.map_id fs)
theorem resD_cel (p : CaR) : resD (caCel p) = p.2 := nums_map p.2
theorem hasL_add {c : Cel} {t : Ty} {cs : List Cel} {ts : List Ty} (h : Has c t) (hs : HasL cs ts) : HasL (c :: cs) (t :: ts) := by
  refine ⟨by simp [hs.1], fun j d u hd hu => ?_⟩
  cases j with
  | zero => simp at hd hu; subst hd hu; exact h
  | succ j => exact hs.2 j d u (by simpa using hd) (by simpa using hu)
theorem has_nums (fs : List Int) : Has (.l 3 1 fs.length (fs.map .i)) (.l 3 1 [.i]) := by
  refine .l _ _ _ _ _ rfl (by simp) fun j c t hc h => ?_
  rw [Nat.mod_one] at h
  cases h
  rw [List.getElem?_map] at hc
  obtain ⟨x, -, rfl⟩ := Option.map_eq_some_iff.1 hc
  exact .i x
theorem caCel_has (p : CaR) : HasL (caCel p) tyCall :=
  hasL_add (.i _) (hasL_add (.i _) (hasL_add (.i _) (hasL_add (.i _) (hasL_add (.i _) (hasL_add (.i _) (hasL_add (.i _) (hasL_add (.i _) (hasL_add (has_nums _) ⟨rfl, fun j d u hd _ => by simp at hd⟩))))))))
theorem ToldAt.cas {w : World} {base : Nat} {v : Value} {L : List CaR} (h : ToldAt w base v L) : ∃ a c, v = .slice a L.length c ∧ CasAt w a L.length (tcF L) ∧ CasR w a L.length (tcF L) (tcR L) := by
  obtain ⟨S, ho⟩ := h.ex
  obtain ⟨a, c, rfl, _⟩ := ho.slice
  have hn := ho.len.2
  have key : L.length = 0 ∨ ∃ b o, a = some ⟨b, o, none⟩ ∧ ∀ i, i < L.length → ∃ ra rn rc, CaC w b (o + i * 9) (tcF L i) (.slice ra rn rc) ∧ IntAt w ra rn (tcR L i) := by
    rcases at_rows ho.at with h0 | ⟨b, o, rfl, hr⟩
    · exact .inl h0
    · refine .inr ⟨b, o, rfl, fun i hi => ?_⟩
      obtain ⟨us, hu, hc⟩ := hr i hi
      rw [row_told hi] at hu
      obtain ⟨ra, rn, rc, h1, h2⟩ := at_call_r hu (caCel_has _) hc
      rw [resD_cel] at h2
      exact ⟨ra, rn, rc, h1, h2⟩
  refine ⟨a, c, rfl, ⟨hn, ?_⟩, key⟩
  rcases key with h0 | ⟨b, o, e, hr⟩
  · exact .inl h0
  · refine .inr ⟨b, o, e, fun i hi => ?_⟩
    obtain ⟨ra, rn, rc, h1, _⟩ := hr i hi
    exact ⟨ra, rn, rc, h1⟩
def fD (cl : List Cel) : Nat → CaD := fun i => caD (row cl 9 i)
def rD (cl : List Cel) : Nat → List Int := fun i => resD (row cl 9 i)
theorem at_call_n {w : World} {b p : Nat} {us : List Value} {r : List Cel} (h : AtL true w us r) (hs : HasL r tyCall) (hb : ∀ (j : Nat) (c : Cel), r[j]? = some c → c.big ≤ 1048576) (hc : ∀ i, i < 9 → w.cell? ⟨b, p + i, none⟩ = us[i]?) : ∃ ra rn rc, CaC w b p (caD r) (.slice ra rn rc) ∧ IntAt w ra rn (resD r) ∧ (ra = none → rc = 0) ∧ rn ≤ 1048576 := by
  obtain ⟨x0, r0, rfl, T0, hH0⟩ := hs.cons
  obtain ⟨x1, r1, rfl, T1, hH1⟩ := hH0.cons
  obtain ⟨x2, r2, rfl, T2, hH2⟩ := hH1.cons
  obtain ⟨x3, r3, rfl, T3, hH3⟩ := hH2.cons
  obtain ⟨x4, r4, rfl, T4, hH4⟩ := hH3.cons
  obtain ⟨x5, r5, rfl, T5, hH5⟩ := hH4.cons
  obtain ⟨x6, r6, rfl, T6, hH6⟩ := hH5.cons
  obtain ⟨x7, r7, rfl, T7, hH7⟩ := hH6.cons
  obtain ⟨x8, r8, rfl, T8, hH8⟩ := hH7.cons
  obtain rfl := hH8.nil
  obtain ⟨v0, vr0, rfl, A0, hA0⟩ := h.consE
  obtain ⟨v1, vr1, rfl, A1, hA1⟩ := hA0.consE
  obtain ⟨v2, vr2, rfl, A2, hA2⟩ := hA1.consE
  obtain ⟨v3, vr3, rfl, A3, hA3⟩ := hA2.consE
  obtain ⟨v4, vr4, rfl, A4, hA4⟩ := hA3.consE
  obtain ⟨v5, vr5, rfl, A5, hA5⟩ := hA4.consE
  obtain ⟨v6, vr6, rfl, A6, hA6⟩ := hA5.consE
  obtain ⟨v7, vr7, rfl, A7, hA7⟩ := hA6.consE
  obtain ⟨v8, vr8, rfl, A8, hA8⟩ := hA7.consE
  obtain rfl := hA8.nilE
  obtain ⟨y0, rfl⟩ := T0.int
  obtain ⟨y1, rfl⟩ := T1.int
  obtain ⟨y2, rfl⟩ := T2.int
  obtain ⟨y3, rfl⟩ := T3.int
  obtain ⟨y4, rfl⟩ := T4.int
  obtain ⟨y5, rfl⟩ := T5.int
  obtain ⟨y6, rfl⟩ := T6.int
  obtain ⟨y7, rfl⟩ := T7.int
  obtain ⟨n8, l8, rfl, _⟩ := T8.list
  obtain rfl := A0.int
  obtain rfl := A1.int
  obtain rfl := A2.int
  obtain rfl := A3.int
  obtain rfl := A4.int
  obtain rfl := A5.int
  obtain rfl := A6.int
  obtain rfl := A7.int
  obtain ⟨a8, c8, rfl⟩ := A8.slice
  have hn8 : n8 ≤ 1048576 := Nat.le_trans big_len (hb 8 _ rfl)
  obtain ⟨_, _, _, e8, _, _, _, hq8, _, _⟩ := A8.openL
  cases e8
  exact ⟨a8, n8, c8, ⟨hc 0 (by omega), hc 1 (by omega), hc 2 (by omega), hc 3 (by omega), hc 4 (by omega), hc 5 (by omega), hc 6 (by omega), hc 7 (by omega), hc 8 (by omega)⟩, (at_kAt A8 T8 i1).ints, (hq8 rfl).1, hn8⟩
theorem at_calls_n {w : World} {v : Value} {m : Nat} {cl : List Cel} (h : At true w v (.l 52 9 m cl)) (hs : Has (.l 52 9 m cl) (.l 52 9 tyCall)) (hb : bigL cl ≤ 1048576) : ∃ ca cc, v = .slice ca m cc ∧ CasN w ca m (fD cl) (rD cl) := by
  obtain ⟨ca, cc, rfl⟩ := h.slice
  refine ⟨ca, cc, rfl, ?_⟩
  obtain ⟨_, _, _, _, _, hl, _⟩ := h.openL
  rcases at_rows h with h0 | ⟨b, o, rfl, hr⟩
  · exact .inl h0
  · refine .inr ⟨b, o, rfl, fun i hi => ?_⟩
    obtain ⟨us, hu, hc⟩ := hr i hi
    exact at_call_n hu (hs.rowL hi) (fun j c hj => Nat.le_trans (row_mem_big hl hi hj) hb) hc
end
section
open Go.ChangeShapes Go.WideShapes Go.ChangeAt Go.RowKit
section
variable {P : Program} {ops : Array Oper} {Q : Exit → Act → World → Prop} {S : World → Prop} {R : Array Bool → Act → World → Prop} {z : Nat}

def StepAll (P : Program) (ops : Array Oper) (Q : Exit → Act → World → Prop) (R : Array Bool → Act → World → Prop) (rs : List Nat) : Prop :=
  ∀ i ∈ rs, ∀ l a w, R l a w → l.getD i true = false → (∀ o, ops[i]? = some o → ∀ e ∈ o.after, Region.binds .any e = true → l.getD e.on false = true) → wpOp P ops Q i (fun a' w' => R (l.setIfInBounds i true) a' w') a w
theorem StepAll.nil : StepAll P ops Q R [] := fun _ h => by cases h
theorem StepAll.skip {i : Nat} {rs : List Nat} (h : ∀ l a w, R l a w → l.getD i true = true) (hs : StepAll P ops Q R rs) : StepAll P ops Q R (i :: rs) := fun j hj => by
  rcases List.mem_cons.1 hj with rfl | hj
  · intro l a w hR hf _
    rw [h l a w hR] at hf
    cases hf
  · exact hs j hj
theorem StepAll.cons {i : Nat} {o : Oper} {rs : List Nat} (ho : ops[i]? = some o)
    (h : ∀ (K : Act → World → Prop) l a w, R l a w → l.getD i true = false → (∀ e ∈ o.after, Region.binds .any e = true → l.getD e.on false = true) → Shut (∀ a' w', R (l.setIfInBounds i true) a' w' → K a' w') →
      if Region.wanted o (yielded ops a.tmps) = true then Oper.wp P o a w K Q else K (a.put o.dst undef) w)
    (hs : StepAll P ops Q R rs) : StepAll P ops Q R (i :: rs) := fun j hj => by
  rcases List.mem_cons.1 hj with rfl | hj
  · intro l a w hR hf he
    exact wpOp_step ho fun K hK => h K l a w hR hf (he o ho) (fun a' w' h' => hK a' w' h')
  · exact hs j hj
def upward (ops : Array Oper) : Bool := (List.range ops.size).all fun i => ((ops[i]?).map (fun o => o.after.all fun e => !Region.binds .any e || decide (e.on < i))).getD true
def unlisted (l : Array Bool) : Nat := l.toList.count false
theorem getD_set_self {l : Array Bool} {i : Nat} (h : i < l.size) : (l.setIfInBounds i true).getD i false = true := by simp [Array.getD_eq_getD_getElem?, h]
def closedB (ops : Array Oper) (l : Array Bool) : Bool := (List.range ops.size).all fun i => !l.getD i false || ((ops[i]?).map (fun o => o.after.all fun e => !Region.binds .any e || l.getD e.on false)).getD true
def Closed (ops : Array Oper) (l : Array Bool) : Prop := ∀ i o, ops[i]? = some o → l.getD i false = true → ∀ e ∈ o.after, Region.binds .any e = true → l.getD e.on false = true
theorem getD_mono {l : Array Bool} {i j : Nat} (h : l.getD j false = true) : (l.setIfInBounds i true).getD j false = true := by
  by_cases hij : i = j
  · subst hij
    have hi : i < l.size := by
      rcases Nat.lt_or_ge i l.size with h1 | h1
      · exact h1
      · rw [Array.getD_eq_getD_getElem?, Array.getElem?_eq_none h1] at h; cases h
    exact getD_set_self hi
  · rw [getD_set_ne false hij]; exact h
theorem Closed.step {l : Array Bool} {i : Nat} {o : Oper} (h : Closed ops l) (ho : ops[i]? = some o) (he : ∀ e ∈ o.after, Region.binds .any e = true → l.getD e.on false = true) : Closed ops (l.setIfInBounds i true) := by
  intro j oj hoj hl e hej hb
  by_cases hij : i = j
  · subst hij
    rw [ho] at hoj
    cases hoj
    exact getD_mono (he e hej hb)
  · rw [getD_set_ne false hij] at hl
    exact getD_mono (h j oj hoj hl e hej hb)
def edgeB (ops : Array Oper) (j i : Nat) : Bool := ((ops[j]?).map (fun o => o.after.any fun e => Region.binds .any e && e.on == i)).getD false
def waits (ops : Array Oper) (z : Nat) : Bool := (List.range ops.size).all fun i => i == z || edgeB ops z i || (List.range ops.size).any fun j => edgeB ops z j && edgeB ops j i
end

theorem wp_append_any {P : Program} {o : Oper} {a : Act} (w : World) {K : Act → World → Prop} {Q : Exit → Act → World → Prop} (s x : Operand) (t : TypeId)
    (ho : o.op = .call { callee := .builtin .append, args := #[s, x], argTypes := #[t, t] })
    (base : Nat) (e : TypeId) (i : TypeInfo) (z : Value) (size bytes : Nat) (ht : P.underlying t = some (.slice e)) (hi : P.info? e = some i) (hz : i.zero = some z)
    (hsize : i.size = size) (hby : i.bytes = bytes) (hzs : z.cells.size = size) (hsz : 0 < size)
    (v : Value) (n : Nat) (xs : List Value) (hs : a.eval s = v) (hown : w.ownsRow base e size v n xs)
    (ad : Option Addr) (m c : Nat) (fs : List Int) (hx : a.eval x = .slice ad m c) (hc : ad = none → c = 0) (hA : KAt size w ad m fs)
    (h63 : n + m ≤ maxLen) (hbytes : (n + m) * bytes ≤ 140737488355328) (hbase : base ≤ w.heap.size)
    (h : ∀ v' w', w'.ownsRow base e size v' (n + m) (xs ++ fs.map I) → w.grownBy w' v.ownBlock → (v'.ownBlock = v.ownBlock ∨ v'.ownBlock = some w.heap.size) → K (a.put o.dst v') w') :
    Oper.wp P o a w K Q := by
  cases ad with
  | none =>
    obtain ⟨rfl, rfl⟩ := hA.nilE
    obtain rfl : c = 0 := hc rfl
    have hrun := run_append_owned_none (P := P) (w := w) base t o.type e i size ht hi v n xs hown
    unfold Oper.wp
    simp [execOp, ho, resolve, invoke, builtin, hs, hx, hrun, Result.andThen]
    exact h v w (by simpa using hown) ⟨rfl, rfl, rfl, Nat.le_refl _, fun _ _ _ => rfl⟩ (.inl rfl)
  | some ad =>
    obtain ⟨v', w', hr, h2, h3, _, h5⟩ := run_append_own_at (P := P) w base t o.type e i z size bytes ht hi hz hsize hby hzs hsz v n xs hown ad m c (fs.map I) (by rw [List.length_map]; exact hA.1) hA.src newsK h63 hbytes hbase
    unfold Oper.wp execOp
    simp only [ho, resolve, invoke, builtin, Sem.run_bind, Sem.run_pure, Result.andThen_ok, List.map_toArray, List.map_cons, List.map_nil, hs, hx, hr]
    exact h v' w' h2 h3 h5
theorem step_append_any {P : Program} {ops : Array Oper} {o : Oper} {a : Act} (w : World) {K : Act → World → Prop} {Q : Exit → Act → World → Prop} {E : Prop} (hg : o.guard = none) (s x : Operand) (t : TypeId)
    (ho : o.op = .call { callee := .builtin .append, args := #[s, x], argTypes := #[t, t] })
    (base : Nat) (e : TypeId) (i : TypeInfo) (z : Value) (size bytes : Nat) (ht : P.underlying t = some (.slice e)) (hi : P.info? e = some i) (hz : i.zero = some z)
    (hsize : i.size = size) (hby : i.bytes = bytes) (hzs : z.cells.size = size) (hsz : 0 < size)
    (v : Value) (n : Nat) (xs : List Value) (hs : a.eval s = v) (hown : w.ownsRow base e size v n xs)
    (ad : Option Addr) (m c : Nat) (fs : List Int) (hx : a.eval x = .slice ad m c) (hc : ad = none → c = 0) (hA : KAt size w ad m fs)
    (h63 : n + m ≤ maxLen) (hbytes : (n + m) * bytes ≤ 140737488355328) (hbase : base ≤ w.heap.size)
    (h : ∀ v' w', w'.ownsRow base e size v' (n + m) (xs ++ fs.map I) → w.grownBy w' v.ownBlock → (v'.ownBlock = v.ownBlock ∨ v'.ownBlock = some w.heap.size) → K (a.put o.dst v') w') :
    if Region.wanted o (yielded ops a.tmps) = true then Oper.wp P o a w K Q else E := by
  rw [if_pos (by simp [Region.wanted, hg])]
  exact wp_append_any w s x t ho base e i z size bytes ht hi hz hsize hby hzs hsz v n xs hs hown ad m c fs hx hc hA h63 hbytes hbase h
end
section
open Go.ChangeShapes Go.WideShapes Go.ChangeAt Go.RowKit Go.Joins
theorem resN_empty {w : World} {base : Nat} {T : TypeId} {size : Nat} (hb : base ≤ w.heap.size) : (w.alloc (.cells #[] T)).drew.ownsRow base T size (.slice (some ⟨w.heap.size, 0, none⟩) 0 0) 0 [] := own_emptyK hb
theorem resN_ge {g n c k : Nat} (e : (Value.slice (some ⟨g, 0, none⟩) n c).ownBlock = some k) : g ≤ k := by
  have h1 : g = k := by simpa [Value.ownBlock] using e
  omega
noncomputable def resNL : List Oper := match Tryz.f31.body with
  | some (.seq _ (.seq (.region _ ops _) _)) => ops.toList
  | _ => []
theorem resN_kAt {w : World} {a : Option Addr} {n : Nat} {xs : List Int} (h : IntAt w a n xs) (hn : n ≤ 2097152) : KAt 1 w a n xs := by
  refine ⟨by have := h.1; omega, hn, ?_⟩
  rcases h.2.2 with h0 | ⟨b, o, h1, h2⟩
  · exact .inl h0
  · exact .inr ⟨b, o, h1, fun i hi => h2 i (by omega)⟩
theorem l6Res_nil (code : Int) (ad : Option Addr) (n c : Nat) (hnil : ad = none → c = 0) (rs : List Int) (w : World) (h : IntAt w ad n rs) (hn : n ≤ 1048576) :
    Calls Tryz.prog 31 #[ResV code ad n c] w fun e w' => ∃ v, e = .returned (.agg #[.int .i64 code, v]) ∧ w'.ownsRow w.heap.size 3 1 v n (rs.map I) ∧ Below w.heap.size w w' := by
  obtain ⟨i0, hi0, hz0, hz1, hz2⟩ := info_parts infoInt
  obtain ⟨W, hW⟩ : ∃ W, ((w.alloc (.cells #[.int .i64 code, .slice ad n c] 50)).alloc (.cells #[.int .i64 0, .slice none 0 0] 50)) = W := ⟨_, rfl⟩
  have hb0 : Below w.heap.size w W := by rw [← hW]; exact ((Below.refl _ w).alloc (Nat.le_refl _) _).alloc (by simp) _
  have hsz : W.heap.size = w.heap.size + 2 := by rw [← hW]; simp
  have HSZ : Hid (W.heap.size = w.heap.size + 2) := hsz
  have X0 : Hid (Box W w.heap.size #[.int .i64 code, .slice ad n c] 50) := by rw [← hW]; exact (box_of w _ _).alloc _
  have R0 : Hid (Box W (w.heap.size + 1) #[.int .i64 0, .slice none 0 0] 50) := by
    have := box_of (w.alloc (.cells #[.int .i64 code, .slice ad n c] 50)) #[.int .i64 0, .slice none 0 0] 50
    rw [hW] at this
    show Box _ _ _ _
    simpa using this
  have HA : Hid (IntAt W ad n rs) := h.below hb0 (Nat.le_refl _)
  have HB0 : Hid (Below w.heap.size w W) := hb0
  have HW : Hid (((w.alloc (.cells #[.int .i64 code, .slice ad n c] 50)).alloc (.cells #[.int .i64 0, .slice none 0 0] 50)) = W) := hW
  have BOX : Hid (∀ w', Below W.heap.size W w' → w'.cell? ⟨w.heap.size, 0, none⟩ = some (.int .i64 code) ∧ w'.cell? ⟨w.heap.size, 1, none⟩ = some (.slice ad n c)) := fun w' hb => ⟨(X0.out.below hb X0.out.lt).two.1, (X0.out.below hb X0.out.lt).two.2.1⟩
  have SRC : Hid (KAt 1 (W.alloc (.cells #[] 3)) ad n rs) := (resN_kAt HA.out (by omega)).below ((Below.refl _ W).alloc (Nat.le_refl _) _) (Nat.le_refl _)
  clear h hW hb0 hsz
  go_enter Tryz.func31, Tryz.ntmps31
  go_wp2_with fail
  rw [HW.out]
  change (Code.region _ (List.toArray resNL) true).wp _ _ _ _
  refine wp_region_held_drew (S := fun w' => w'.cell? ⟨w.heap.size, 0, none⟩ = some (.int .i64 code) ∧ w'.cell? ⟨w.heap.size, 1, none⟩ = some (.slice ad n c)) (by kernel_rfl) ?_ (fun hHeld => ?_)
  · exact BOX.out _ (Below.refl _ _).drew
  refine wpAnyH_take (i := 0) (oi := _) (v := .pointer (some ⟨w.heap.size, 0, none⟩)) (by rw [List.getElem?_toArray]; exact rfl) (by kernel_rfl) (by kernel_rfl) (by kernel_rfl) (by intro _ _ _ h; exact h) (Or.inl ⟨by kernel_rfl, ?_⟩) hHeld ?_
  · intro w hSw; obtain ⟨s1, s2⟩ := hSw; go_simp
  (try simp only [Act.put, List.setIfInBounds_toArray, List.set_cons_zero, List.set_cons_succ])
  refine wpAnyH_take (i := 1) (oi := _) (v := .int .i64 code) (by rw [List.getElem?_toArray]; exact rfl) (by kernel_rfl) (by kernel_rfl) (by kernel_rfl) (by intro _ _ _ h; exact h) (Or.inl ⟨by kernel_rfl, ?_⟩) hHeld ?_
  · intro w hSw; obtain ⟨s1, s2⟩ := hSw; go_simp
  (try simp only [Act.put, List.setIfInBounds_toArray, List.set_cons_zero, List.set_cons_succ])
  refine wpAnyH_take (i := 3) (oi := _) (v := .pointer (some ⟨w.heap.size, 1, none⟩)) (by rw [List.getElem?_toArray]; exact rfl) (by kernel_rfl) (by kernel_rfl) (by kernel_rfl) (by intro _ _ _ h; exact h) (Or.inl ⟨by kernel_rfl, ?_⟩) hHeld ?_
  · intro w hSw; obtain ⟨s1, s2⟩ := hSw; go_simp
  (try simp only [Act.put, List.setIfInBounds_toArray, List.set_cons_zero, List.set_cons_succ])
  refine wpAnyH_take (i := 4) (oi := _) (v := .slice ad n c) (by rw [List.getElem?_toArray]; exact rfl) (by kernel_rfl) (by kernel_rfl) (by kernel_rfl) (by intro _ _ _ h; exact h) (Or.inl ⟨by kernel_rfl, ?_⟩) hHeld ?_
  · intro w hSw; obtain ⟨s1, s2⟩ := hSw; go_simp
  (try simp only [Act.put, List.setIfInBounds_toArray, List.set_cons_zero, List.set_cons_succ])
  refine wpAnyH_ready (rs := [2]) (by kernel_rfl) (by simp) ?_
  refine AllReadyH.cons (o := _) (by rw [List.getElem?_toArray]; exact rfl) (fun K hK => ?_) AllReadyH.nil
  rw [if_pos (by kernel_rfl)]
  go_simp
  have hBa : Below W.heap.size W (W.alloc (.cells #[] 3)).drew := ((Below.refl W.heap.size W).alloc (Nat.le_refl _) _).drew
  refine hK.out _ _ (BOX.out _ hBa) (fun hHeld => ?_)
  clear hK K
  (try simp only [Act.put, List.setIfInBounds_toArray, List.set_cons_zero, List.set_cons_succ])
  refine wpAnyH_ready (rs := [5]) (by kernel_rfl) (by simp) ?_
  refine AllReadyH.cons (o := _) (by rw [List.getElem?_toArray]; exact rfl) (fun K hK => ?_) AllReadyH.nil
  refine step_append_any _ (by rfl) _ _ 22 (by rfl) W.heap.size 3 i0 (.int .i64 0) 1 8 Tryz.underlying22 hi0 hz0 hz1 hz2 (by rfl) (by decide) (.slice (some ⟨W.heap.size, 0, none⟩) 0 0) 0 [] (by rfl) (resN_empty (Nat.le_refl _)) ad n c rs (by rfl) hnil (SRC.out.below (Below.refl _ _).drew (Nat.le_refl _)) (by unfold maxLen; omega) (by omega) (by show W.heap.size ≤ (W.alloc _).heap.size; simp) ?_
  intro v' w2 own2 grow2 _
  rw [Nat.zero_add, List.nil_append] at own2
  have hB2 : Below W.heap.size W w2 := hBa.grown grow2 (by show W.heap.size ≤ (W.alloc _).heap.size; simp) (fun k e => resN_ge e)
  obtain ⟨va, vc, rfl, _⟩ := owns_slice own2
  refine hK.out _ _ (BOX.out _ hB2) (fun hHeld => ?_)
  clear hK K
  (try simp only [Act.put, List.setIfInBounds_toArray, List.set_cons_zero, List.set_cons_succ])
  refine wpAnyH_take (i := 6) (oi := _) (v := .agg #[.int .i64 code, .slice va n vc]) (by rw [List.getElem?_toArray]; exact rfl) (by kernel_rfl) (by kernel_rfl) (by kernel_rfl) (by intro _ _ _ h; exact h) (Or.inl ⟨by kernel_rfl, ?_⟩) hHeld ?_
  · intro w hSw; go_simp
  (try simp only [Act.put, List.setIfInBounds_toArray, List.set_cons_zero, List.set_cons_succ])
  obtain ⟨r0, r1, z0, z1⟩ := (R0.out.below hB2 R0.out.lt).two
  refine wpAnyH_ready (rs := [7]) (by kernel_rfl) (by simp) ?_
  refine AllReadyH.cons (o := _) (by rw [List.getElem?_toArray]; exact rfl) (fun K hK => ?_) AllReadyH.nil
  rw [if_pos (by kernel_rfl)]
  go_simp
  refine hK.out _ _ ?_ (fun hHeld => ?_)
  · exact ⟨((((X0.out.below hB2 X0.out.lt).set (q := ⟨w.heap.size + 1, 0, none⟩) (show w.heap.size ≠ w.heap.size + 1 by omega) _).set (q := ⟨w.heap.size + 1, 1, none⟩) (show w.heap.size ≠ w.heap.size + 1 by omega) _).two).1, ((((X0.out.below hB2 X0.out.lt).set (q := ⟨w.heap.size + 1, 0, none⟩) (show w.heap.size ≠ w.heap.size + 1 by omega) _).set (q := ⟨w.heap.size + 1, 1, none⟩) (show w.heap.size ≠ w.heap.size + 1 by omega) _).two).2.1⟩
  clear hK K
  (try simp only [Act.put, List.setIfInBounds_toArray, List.set_cons_zero, List.set_cons_succ])
  refine wpAnyH_done (by kernel_rfl) ?_ _
  obtain ⟨e0, e1, _, _⟩ := (((R0.out.below hB2 R0.out.lt).put 0 (.int .i64 code)).put 1 (.slice va n vc)).two
  go_wp2
  (try simp only [Exit.inBlock, Exit.then])
  refine bodyPost_ret (by simp [results, Tryz.results31, go_sem, e0, e1]; try rfl) rfl ?_
  have hs := HSZ.out
  have hwb : (Value.slice va n vc).ownBlock ≠ some (w.heap.size + 1) := fun e => by have := (own2.lt _ e).1; omega
  exact ⟨.slice va n vc, rfl, own_setCell_far (own_setCell_far (own_weaken own2 HB0.out.size) hwb _) hwb _, ((HB0.out.trans (hB2.mono HB0.out.size)).setCell (by simp) _).setCell (by simp) _⟩
end
section
open Go.ChangeShapes Go.WideShapes Go.ChangeAt Go.RowKit
abbrev ThV5 (a0 : Option Addr) (c0 : Nat) (a1 : Option Addr) (c1 : Nat) (a2 : Option Addr) (c2 : Nat) (t : ThD) : Value := .agg #[.slice a0 t.n0 c0, .int .i64 t.pc, .bool t.on, .slice a1 t.n1 c1, .slice a2 t.n2 c2]
theorem all_next {P : Nat → Prop} {k : Nat} (h : ∀ j, j < k → P j) (h1 : P k) : ∀ j, j < k + 1 → P j := fun j hj => by
  by_cases e : j = k
  · rw [e]; exact h1
  · exact h j (by omega)


theorem infoCallT : (Tryz.prog.info? 52).map (fun i => (i.zero, i.size, i.bytes)) = some (some (.agg #[.int .i64 0, .int .i64 0, .int .i64 0, .int .i64 0, .int .i64 0, .int .i64 0, .int .i64 0, .int .i64 0, .slice none 0 0]), 9, 88) := by kernel_rfl
theorem nineT_of {w : World} {b : Nat} {v0 v1 v2 v3 v4 v5 v6 v7 v8 : Value} {T : TypeId} (h : Box w b #[v0, v1, v2, v3, v4, v5, v6, v7, v8] T) : w.cell? ⟨b, 0, none⟩ = some v0 ∧ w.cell? ⟨b, 1, none⟩ = some v1 ∧ w.cell? ⟨b, 2, none⟩ = some v2 ∧ w.cell? ⟨b, 3, none⟩ = some v3 ∧ w.cell? ⟨b, 4, none⟩ = some v4 ∧ w.cell? ⟨b, 5, none⟩ = some v5 ∧ w.cell? ⟨b, 6, none⟩ = some v6 ∧ w.cell? ⟨b, 7, none⟩ = some v7 ∧ w.cell? ⟨b, 8, none⟩ = some v8 ∧ w.frozen? ⟨b, 7, none⟩ = false ∧ w.frozen? ⟨b, 8, none⟩ = false := ⟨h.cell 0, h.cell 1, h.cell 2, h.cell 3, h.cell 4, h.cell 5, h.cell 6, h.cell 7, h.cell 8, h.frozen 7, h.frozen 8⟩
theorem callV_src (w : World) (d : CaD) (u : Value) (t : TypeId) : ∀ (j : Nat) (q : Value), (callV d u)[j]? = some q → (w.alloc (.cells (callV d u).toArray t)).cell? ((⟨w.heap.size, 0, none⟩ : Addr).add j) = some q := by
  intro j q hj
  have hx := (box_of w (callV d u).toArray t).cell j
  have e : (⟨w.heap.size, 0, none⟩ : Addr).add j = ⟨w.heap.size, j, none⟩ := by simp [Addr.add]; omega
  rw [e, hx]
  simpa using hj
theorem callV_one (d : CaD) (a : Option Addr) (n c : Nat) : ∀ u ∈ callV d (.slice a n c), u.oneCell' = true := by
  intro u hu
  simp [callV] at hu
  rcases hu with rfl | rfl | rfl | rfl | rfl | rfl | rfl | rfl | rfl <;> rfl
theorem spec_l12Told (ca : Option Addr) (m cc : Nat) (f : Nat → CaD) (rs : Nat → List Int) (w : World) (hm : m ≤ 1048576) (h : CasN w ca m f rs) :
    Calls Tryz.prog 14 #[.slice ca m cc] w fun e w' => ∃ v, e = .returned v ∧ ToldAt w' w.heap.size v (toldL f rs m) ∧ Below w.heap.size w w' := by
  have HC : Hid (CasN w ca m f rs) := h
  obtain ⟨i0, hi, hz⟩ := Option.map_eq_some_iff.1 infoCallT
  have hz0 : i0.zero = some (.agg #[.int .i64 0, .int .i64 0, .int .i64 0, .int .i64 0, .int .i64 0, .int .i64 0, .int .i64 0, .int .i64 0, .slice none 0 0]) := congrArg Prod.fst hz
  have hz1 : i0.size = 9 := congrArg (fun p => p.2.1) hz
  have hz2 : i0.bytes = 88 := congrArg (fun p => p.2.2) hz
  obtain ⟨sz, hsz⟩ : ∃ sz, w.heap.size = sz := ⟨_, rfl⟩
  obtain ⟨W, hW⟩ : ∃ W, w.alloc (.cells #[] 52) = W := ⟨_, rfl⟩
  have HB0 : Hid (Below sz w W) := by rw [← hW, ← hsz]; exact (Below.refl _ w).alloc (Nat.le_refl _) _
  have HT0 : Hid (ToldAt W sz (.slice (some ⟨sz, 0, none⟩) 0 0) []) := by rw [← hW, ← hsz]; exact told_none (own_emptyK (Nat.le_refl _))
  have HW : Hid (w.alloc (.cells #[] 52) = W) := hW
  have HSZ : Hid (w.heap.size = sz) := hsz
  rw [hsz]
  clear h hz hW hsz
  go_enter Tryz.func14, Tryz.ntmps14
  go_upto_region 2 with (fail)
  rw [HW.out]
  (try rw [HSZ.out])
  go_wp2
  go_loopw [3, 4] (fun v i wr => ∃ k : Nat, k ≤ m ∧ i = .int .i64 (k : Int) ∧ ToldAt wr sz v (toldL f rs k) ∧ Below sz w wr) (fun _ i _ => m - (intOf i).toNat)
  case atStart => exact ⟨0, Nat.zero_le _, rfl, HT0.out, HB0.out⟩
  case round =>
    obtain ⟨k, hk, rfl, hT, hb⟩ := hrel
    have HT : Hid (ToldAt wr sz u3 (toldL f rs k)) := hT
    have HB : Hid (Below sz w wr) := hb
    clear hT hb
    by_cases hlt : k < m
    case neg =>
      obtain rfl : m = k := by omega
      go_wp2
      go_ret
      first | exact ⟨HT.out, HB.out⟩ | exact ⟨_, rfl, HT.out, HB.out⟩
    have hk0 : (0 : Int) ≤ (k : Int) := by omega
    have hk1 : (k : Int) < (m : Int) := by omega
    rcases HC.out.below HB.out (by rw [HSZ.out]; exact Nat.le_refl _) with h0 | ⟨p1, o1, rfl, g1⟩
    · omega
    obtain ⟨ra, rn, rc, ⟨e0, e1, e2, e3, e4, e5, e6, e7, e8⟩, hres, hnil, hrn⟩ := g1 k hlt
    obtain ⟨L, hL⟩ : ∃ L, rs k = L := ⟨_, rfl⟩
    obtain ⟨C, hC⟩ : ∃ C, f k = C := ⟨_, rfl⟩
    rw [hL] at hres
    rw [hC] at e0 e1 e2 e3 e4 e5 e6 e7
    have HFK : Hid (f k = C ∧ rs k = L) := ⟨hC, hL⟩
    obtain ⟨x0, x1, x2, x3, x4, x5, x6, x7⟩ := C
    dsimp only at e0 e1 e2 e3 e4 e5 e6 e7
    obtain ⟨q, hq⟩ : ∃ q, wr.heap.size = q := ⟨_, rfl⟩
    obtain ⟨X, hX⟩ : ∃ X, wr.alloc (.cells #[.int .i64 x0, .int .i64 x1, .int .i64 x2, .int .i64 x3, .int .i64 x4, .int .i64 x5, .int .i64 x6, .int .i64 x7, .slice ra rn rc] 52) = X := ⟨_, rfl⟩
    have hbx : Below q wr X := by rw [← hX, ← hq]; exact (Below.refl _ wr).alloc (Nat.le_refl _) _
    have BC : Hid (Box X q #[.int .i64 x0, .int .i64 x1, .int .i64 x2, .int .i64 x3, .int .i64 x4, .int .i64 x5, .int .i64 x6, .int .i64 x7, .slice ra rn rc] 52) := by rw [← hX, ← hq]; exact box_of wr _ _
    have HBX : Hid (Below q wr X) := hbx
    have HRES : Hid (IntAt X ra rn L) := hres.below hbx (by omega)
    have HNIL : Hid (ra = none → rc = 0) := hnil
    have HLEN : Hid (L.length = rn) := hres.1
    have HX : Hid (wr.alloc (.cells #[.int .i64 x0, .int .i64 x1, .int .i64 x2, .int .i64 x3, .int .i64 x4, .int .i64 x5, .int .i64 x6, .int .i64 x7, .slice ra rn rc] 52) = X) := hX
    have HQ : Hid (wr.heap.size = q) := hq
    have LQ : sz ≤ q := by have := HB.out.size; have := HSZ.out; omega
    have HQX : Hid (q + 1 = X.heap.size) := by show _ = _; rw [← hX, ← hq]; simp
    clear g1 hC hL hres hnil hbx hX
    go_upto_region 6 with (fail)
    rw [HX.out]
    (try rw [HQ.out])
    clear HX hq e0 e1 e2 e3 e4 e5 e6 e7 e8
    obtain ⟨u0, u1, u2, u3', u4, u5, u6, u7, u8, z7, z8⟩ := nineT_of BC.out
    by_cases hq : ToldQ (⟨x0, x1, x2, x3, x4, x5, x6, x7⟩ : CaD) = true
    case neg =>
      have hn6 : ¬ 0 ≤ x6 := fun h => hq (by simp [ToldQ, h])
      have hn5 : ¬ 0 ≤ x5 := fun h => hq (by simp [ToldQ, h])
      have HN : Hid (toldL f rs (k + 1) = toldL f rs k) := toldL_no (by rw [HFK.out.1]; simpa using hq)
      have HT2 : Hid (ToldAt X sz u3 (toldL f rs k)) := HT.out.on HBX.out (by rw [HQ.out]; exact Nat.le_refl _)
      have HB2 : Hid (Below sz w X) := HB.out.trans (HBX.out.mono LQ)
      have hg6 : decide (x6 ≥ 0) = false := decide_eq_false hn6
      have hg5 : decide (x5 ≥ 0) = false := decide_eq_false hn5
      clear hq
      go_wp2
      exact ⟨⟨k + 1, by omega, by go_num, by rw [HN.out]; exact HT2.out, HB2.out⟩, by simp [intOf]; omega⟩
    have HN : Hid (toldL f rs (k + 1) = toldL f rs k ++ [(⟨x0, x1, x2, x3, x4, x5, x6, x7⟩, L)]) := by
      show _ = _
      rw [toldL_yes (by rw [HFK.out.1]; exact hq), HFK.out.1, HFK.out.2]
    have hcase : 0 ≤ x6 ∨ (¬ 0 ≤ x6 ∧ 0 ≤ x5) := by
      by_cases h6 : 0 ≤ x6
      · exact .inl h6
      · by_cases h5 : 0 ≤ x5
        · exact .inr ⟨h6, h5⟩
        · exact absurd hq (by simp [ToldQ, h5, h6])
    clear hq
    rcases hcase with h6 | ⟨h6, h5⟩
    · have hg6 : decide (x6 ≥ 0) = true := decide_eq_true h6
      go_wp2_with fail
      refine (l6Res_nil x7 ra rn rc HNIL.out L X HRES.out hrn).mono ?_
      rintro e w2 ⟨v, rfl, hown, hb2⟩
      obtain ⟨va, vc, rfl, _⟩ := owns_slice hown
      have HO2 : Hid (w2.ownsRow X.heap.size 3 1 (.slice va rn vc) rn (L.map I)) := hown
      have HB2 : Hid (Below q wr w2) := HBX.out.trans (hb2.mono (by have := HQX.out; omega))
      have BC2 : Hid (Box w2 q #[.int .i64 x0, .int .i64 x1, .int .i64 x2, .int .i64 x3, .int .i64 x4, .int .i64 x5, .int .i64 x6, .int .i64 x7, .slice ra rn rc] 52) := BC.out.below hb2 BC.out.lt
      obtain ⟨Y, hY⟩ : ∃ Y, (w2.setCell ⟨q, 7, none⟩ (.int .i64 x7)).setCell ⟨q, 8, none⟩ (.slice va rn vc) = Y := ⟨_, rfl⟩
      have BY : Hid (Box Y q #[.int .i64 x0, .int .i64 x1, .int .i64 x2, .int .i64 x3, .int .i64 x4, .int .i64 x5, .int .i64 x6, .int .i64 x7, .slice va rn vc] 52) := by rw [← hY]; exact (BC2.out.put 7 _).put 8 _
      have HBY : Hid (Below q wr Y) := by rw [← hY]; exact (HB2.out.setCell (Nat.le_refl _) _).setCell (Nat.le_refl _) _
      have HOY : Hid (Y.ownsRow q 3 1 (.slice va rn vc) rn (L.map I)) := by
        have hwb : (Value.slice va rn vc).ownBlock ≠ some q := fun e => by have := (HO2.out.lt _ e).1; have := HQX.out; omega
        rw [← hY]
        exact own_setCell_far (own_setCell_far (own_weaken HO2.out (by have := HQX.out; omega)) hwb _) hwb _
      have HY : Hid ((w2.setCell ⟨q, 7, none⟩ (.int .i64 x7)).setCell ⟨q, 8, none⟩ (.slice va rn vc) = Y) := hY
      clear hown hb2 hY u0 u1 u2 u3' u4 u5 u6 u7 u8 z7 z8
      obtain ⟨u0, u1, u2, u3', u4, u5, u6, u7, u8, z7, z8⟩ := nineT_of BC2.out
      go_upto_region 8 with (fail)
      rw [HY.out]
      clear u0 u1 u2 u3' u4 u5 u6 u7 u8 z7 z8 HY
      obtain ⟨u0, u1, u2, u3', u4, u5, u6, u7, u8, z7, z8⟩ := nineT_of BY.out
      obtain ⟨q4, hq4⟩ : ∃ q4, Y.heap.size = q4 := ⟨_, rfl⟩
      obtain ⟨Z, hZ⟩ : ∃ Z, Y.alloc (.cells #[.int .i64 x0, .int .i64 x1, .int .i64 x2, .int .i64 x3, .int .i64 x4, .int .i64 x5, .int .i64 x6, .int .i64 x7, .slice va rn vc] 52) = Z := ⟨_, rfl⟩
      have hbz : Below q wr Z := by rw [← hZ]; exact HBY.out.alloc (by have := HBY.out.size; have := HQ.out; omega) _
      have HOZ : Hid (Z.ownsRow q 3 1 (.slice va rn vc) rn (L.map I)) := by rw [← hZ]; exact HOY.out.alloc _
      have SRC : Hid (∀ (j : Nat) (y : Value), (callV ⟨x0, x1, x2, x3, x4, x5, x6, x7⟩ (.slice va rn vc))[j]? = some y → Z.cell? ((⟨q4, 0, none⟩ : Addr).add j) = some y) := by
        rw [← hZ, ← hq4]
        exact callV_src Y ⟨x0, x1, x2, x3, x4, x5, x6, x7⟩ (.slice va rn vc) 52
      have hll := toldL_len f rs k
      obtain ⟨vs, hrow, back⟩ := HT.out.app (by omega) hbz (by rw [HQ.out]; exact Nat.le_refl _) LQ
      have HROW : Hid (Z.ownsRow sz 52 9 u3 (toldL f rs k).length vs) := hrow
      have HBACK : Hid (∀ (v' : Value) (w' : World), w'.ownsRow sz 52 9 v' ((toldL f rs k).length + 1) (vs ++ callV ⟨x0, x1, x2, x3, x4, x5, x6, x7⟩ (.slice va rn vc)) → Z.grownBy w' u3.ownBlock → (v'.ownBlock = u3.ownBlock ∨ v'.ownBlock = some Z.heap.size) → ToldAt w' sz v' (toldL f rs (k + 1))) := fun v' w' h1 h2 h3 => by
        rw [HN.out]
        have hl := HLEN.out
        exact back v' (.slice va rn vc) w' (⟨x0, x1, x2, x3, x4, x5, x6, x7⟩, L) (by show World.ownsRow _ _ _ _ _ _ _; rw [show (((⟨x0, x1, x2, x3, x4, x5, x6, x7⟩ : CaD), L) : CaR).2.length = rn from hl]; exact HOZ.out) (by show L.length ≤ _; omega) h1 h2 h3
      have HBZ : Hid (Below sz w Z) := HB.out.trans (hbz.mono LQ)
      have LSZ : sz ≤ Z.heap.size := by have := hbz.size; have := HQ.out; omega
      have HZ : Hid (Y.alloc (.cells #[.int .i64 x0, .int .i64 x1, .int .i64 x2, .int .i64 x3, .int .i64 x4, .int .i64 x5, .int .i64 x6, .int .i64 x7, .slice va rn vc] 52) = Z) := hZ
      have HQ4 : Hid (Y.heap.size = q4) := hq4
      obtain ⟨nl, hnl⟩ : ∃ nl, (toldL f rs k).length = nl := ⟨_, rfl⟩
      have HNL : Hid ((toldL f rs k).length = nl) := hnl
      rw [hnl] at hll
      clear hZ hq4 hbz hrow back hnl
      go_wp2_with
        (at_builtin
         first | rw [HZ.out] | skip
         first | rw [HQ4.out] | skip
         refine wpList_append_own_at _ rfl _ _ 31 rfl sz 52 i0 (.agg #[.int .i64 0, .int .i64 0, .int .i64 0, .int .i64 0, .int .i64 0, .int .i64 0, .int .i64 0, .int .i64 0, .slice none 0 0]) 9 88 Tryz.underlying31 hi hz0 hz1 hz2 rfl (by decide) u3 nl vs rfl (by rw [← HNL.out]; exact HROW.out) ⟨q4, 0, none⟩ 1 1 (callV ⟨x0, x1, x2, x3, x4, x5, x6, x7⟩ (.slice va rn vc)) rfl rfl SRC.out (callV_one _ _ _ _) (by unfold maxLen; omega) (by omega) LSZ ?_
         intro v' w5 own' gr _ at'
         have HT5 : Hid (ToldAt w5 sz v' (toldL f rs (k + 1))) := HBACK.out v' w5 (by rw [HNL.out]; exact own') gr at'
         have HB5 : Hid (Below sz w w5) := HBZ.out.grown gr LSZ (fun b e => (HROW.out.lt b e).1)
         clear own' gr at')
      (try go_wp2)
      exact ⟨⟨k + 1, by omega, by go_num, HT5.out, HB5.out⟩, by simp [intOf]; omega⟩
    · have hg6 : decide (x6 ≥ 0) = false := decide_eq_false h6
      have hg5 : decide (x5 ≥ 0) = true := decide_eq_true h5
      go_wp2_with fail
      refine (l6Res_nil x7 ra rn rc HNIL.out L X HRES.out hrn).mono ?_
      rintro e w2 ⟨v, rfl, hown, hb2⟩
      obtain ⟨va, vc, rfl, _⟩ := owns_slice hown
      have HO2 : Hid (w2.ownsRow X.heap.size 3 1 (.slice va rn vc) rn (L.map I)) := hown
      have HB2 : Hid (Below q wr w2) := HBX.out.trans (hb2.mono (by have := HQX.out; omega))
      have BC2 : Hid (Box w2 q #[.int .i64 x0, .int .i64 x1, .int .i64 x2, .int .i64 x3, .int .i64 x4, .int .i64 x5, .int .i64 x6, .int .i64 x7, .slice ra rn rc] 52) := BC.out.below hb2 BC.out.lt
      obtain ⟨Y, hY⟩ : ∃ Y, (w2.setCell ⟨q, 7, none⟩ (.int .i64 x7)).setCell ⟨q, 8, none⟩ (.slice va rn vc) = Y := ⟨_, rfl⟩
      have BY : Hid (Box Y q #[.int .i64 x0, .int .i64 x1, .int .i64 x2, .int .i64 x3, .int .i64 x4, .int .i64 x5, .int .i64 x6, .int .i64 x7, .slice va rn vc] 52) := by rw [← hY]; exact (BC2.out.put 7 _).put 8 _
      have HBY : Hid (Below q wr Y) := by rw [← hY]; exact (HB2.out.setCell (Nat.le_refl _) _).setCell (Nat.le_refl _) _
      have HOY : Hid (Y.ownsRow q 3 1 (.slice va rn vc) rn (L.map I)) := by
        have hwb : (Value.slice va rn vc).ownBlock ≠ some q := fun e => by have := (HO2.out.lt _ e).1; have := HQX.out; omega
        rw [← hY]
        exact own_setCell_far (own_setCell_far (own_weaken HO2.out (by have := HQX.out; omega)) hwb _) hwb _
      have HY : Hid ((w2.setCell ⟨q, 7, none⟩ (.int .i64 x7)).setCell ⟨q, 8, none⟩ (.slice va rn vc) = Y) := hY
      clear hown hb2 hY u0 u1 u2 u3' u4 u5 u6 u7 u8 z7 z8
      obtain ⟨u0, u1, u2, u3', u4, u5, u6, u7, u8, z7, z8⟩ := nineT_of BC2.out
      go_upto_region 8 with (fail)
      rw [HY.out]
      clear u0 u1 u2 u3' u4 u5 u6 u7 u8 z7 z8 HY
      obtain ⟨u0, u1, u2, u3', u4, u5, u6, u7, u8, z7, z8⟩ := nineT_of BY.out
      obtain ⟨q4, hq4⟩ : ∃ q4, Y.heap.size = q4 := ⟨_, rfl⟩
      obtain ⟨Z, hZ⟩ : ∃ Z, Y.alloc (.cells #[.int .i64 x0, .int .i64 x1, .int .i64 x2, .int .i64 x3, .int .i64 x4, .int .i64 x5, .int .i64 x6, .int .i64 x7, .slice va rn vc] 52) = Z := ⟨_, rfl⟩
      have hbz : Below q wr Z := by rw [← hZ]; exact HBY.out.alloc (by have := HBY.out.size; have := HQ.out; omega) _
      have HOZ : Hid (Z.ownsRow q 3 1 (.slice va rn vc) rn (L.map I)) := by rw [← hZ]; exact HOY.out.alloc _
      have SRC : Hid (∀ (j : Nat) (y : Value), (callV ⟨x0, x1, x2, x3, x4, x5, x6, x7⟩ (.slice va rn vc))[j]? = some y → Z.cell? ((⟨q4, 0, none⟩ : Addr).add j) = some y) := by
        rw [← hZ, ← hq4]
        exact callV_src Y ⟨x0, x1, x2, x3, x4, x5, x6, x7⟩ (.slice va rn vc) 52
      have hll := toldL_len f rs k
      obtain ⟨vs, hrow, back⟩ := HT.out.app (by omega) hbz (by rw [HQ.out]; exact Nat.le_refl _) LQ
      have HROW : Hid (Z.ownsRow sz 52 9 u3 (toldL f rs k).length vs) := hrow
      have HBACK : Hid (∀ (v' : Value) (w' : World), w'.ownsRow sz 52 9 v' ((toldL f rs k).length + 1) (vs ++ callV ⟨x0, x1, x2, x3, x4, x5, x6, x7⟩ (.slice va rn vc)) → Z.grownBy w' u3.ownBlock → (v'.ownBlock = u3.ownBlock ∨ v'.ownBlock = some Z.heap.size) → ToldAt w' sz v' (toldL f rs (k + 1))) := fun v' w' h1 h2 h3 => by
        rw [HN.out]
        have hl := HLEN.out
        exact back v' (.slice va rn vc) w' (⟨x0, x1, x2, x3, x4, x5, x6, x7⟩, L) (by show World.ownsRow _ _ _ _ _ _ _; rw [show (((⟨x0, x1, x2, x3, x4, x5, x6, x7⟩ : CaD), L) : CaR).2.length = rn from hl]; exact HOZ.out) (by show L.length ≤ _; omega) h1 h2 h3
      have HBZ : Hid (Below sz w Z) := HB.out.trans (hbz.mono LQ)
      have LSZ : sz ≤ Z.heap.size := by have := hbz.size; have := HQ.out; omega
      have HZ : Hid (Y.alloc (.cells #[.int .i64 x0, .int .i64 x1, .int .i64 x2, .int .i64 x3, .int .i64 x4, .int .i64 x5, .int .i64 x6, .int .i64 x7, .slice va rn vc] 52) = Z) := hZ
      have HQ4 : Hid (Y.heap.size = q4) := hq4
      obtain ⟨nl, hnl⟩ : ∃ nl, (toldL f rs k).length = nl := ⟨_, rfl⟩
      have HNL : Hid ((toldL f rs k).length = nl) := hnl
      rw [hnl] at hll
      clear hZ hq4 hbz hrow back hnl
      go_wp2_with
        (at_builtin
         first | rw [HZ.out] | skip
         first | rw [HQ4.out] | skip
         refine wpList_append_own_at _ rfl _ _ 31 rfl sz 52 i0 (.agg #[.int .i64 0, .int .i64 0, .int .i64 0, .int .i64 0, .int .i64 0, .int .i64 0, .int .i64 0, .int .i64 0, .slice none 0 0]) 9 88 Tryz.underlying31 hi hz0 hz1 hz2 rfl (by decide) u3 nl vs rfl (by rw [← HNL.out]; exact HROW.out) ⟨q4, 0, none⟩ 1 1 (callV ⟨x0, x1, x2, x3, x4, x5, x6, x7⟩ (.slice va rn vc)) rfl rfl SRC.out (callV_one _ _ _ _) (by unfold maxLen; omega) (by omega) LSZ ?_
         intro v' w5 own' gr _ at'
         have HT5 : Hid (ToldAt w5 sz v' (toldL f rs (k + 1))) := HBACK.out v' w5 (by rw [HNL.out]; exact own') gr at'
         have HB5 : Hid (Below sz w w5) := HBZ.out.grown gr LSZ (fun b e => (HROW.out.lt b e).1)
         clear own' gr at')
      (try go_wp2)
      exact ⟨⟨k + 1, by omega, by go_num, HT5.out, HB5.out⟩, by simp [intOf]; omega⟩
end
end Go.Proofs.YtecheopkfhfgkaaGreat
