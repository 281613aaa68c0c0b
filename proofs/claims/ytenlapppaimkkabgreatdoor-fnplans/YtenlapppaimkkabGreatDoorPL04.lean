/- Texts joined: ViaAt, Known, RegTail, Tell, Tell2, CountAt. -/
import Derived.Test.YtenlapppaimkkabGreatDoorPL03
import Derived.WalkKit
import Derived.ProofKit
import Derived.Deep.RegionHeld3
import Derived.RangeFuncLeaves
import Derived.Shelf.Abstract
import Derived.OwnWalkIn
import Derived.TacticsInMore
import Derived.Stop.RegionWithIn
import Derived.BigRegion
set_option maxHeartbeats 2000000
set_option maxRecDepth 100000
namespace Go.Proofs.YtenlapppaimkkabGreatDoor
section
open Go.ChangeShapes Go.WideShapes Go.ChangeAt Go.RowKit
theorem specViaAt_any (k : Int) (w : World) :
    Calls Tryz.prog 35 #[.int .i64 k] w fun e w' => e = .returned (.int .i64 (placeN 5 k)) ∧ w' = w := by
  by_cases h : 1 ≤ k ∧ k ≤ 6
  · have hp : placeN 5 k = 13 + k := by unfold placeN; repeat' split <;> omega
    rw [hp]
    clear hp
    obtain ⟨h0, h1⟩ := h
    go_enter Tryz.func35, Tryz.ntmps35
    go_wp2
    go_ret
    exact ⟨rfl, rfl⟩
  · have hp : placeN 5 k = -1 := by unfold placeN; repeat' split <;> omega
    rw [hp]
    clear hp
    by_cases h0 : 1 ≤ k
    · have h1 : ¬ k ≤ 6 := by omega
      clear h
      go_enter Tryz.func35, Tryz.ntmps35
      go_wp2
      go_ret
      exact ⟨rfl, rfl⟩
    · have h1 : k < 1 := by omega
      clear h h0
      go_enter Tryz.func35, Tryz.ntmps35
      go_wp2
      go_ret
      exact ⟨rfl, rfl⟩

theorem implViaAt_any (k : Int) (w : World) (hN : Names w) :
    Calls Tryz.prog 50 #[.int .i64 k] w fun e w' => e = .returned (.int .i64 (placeN 5 k)) ∧ Below w.heap.size w w' := by
  go_enter Tryz.func50, Tryz.ntmps50
  go_wp2_with (go_at_call 87; refine (placeOf_any 5 k _ hN).mono ?_; rintro e w1 ⟨rfl, hb⟩)
  go_ret
  exact ⟨rfl, hb⟩
theorem knownAt_any (a : Option Addr) (n c : Nat) (p : Int) (fs : List Int) (w : World) (h : PairAt w a n fs) :
    Calls Tryz.prog 68 #[.slice a n c, .int .i64 p] w fun e w' => e = .returned (.int .i64 (rd fs n p)) ∧ Below w.heap.size w w' := by
  have HP : Hid (PairAt w a n fs) := h
  clear h
  unfold rd
  by_cases hp : p < 0
  · rw [if_pos hp]
    go_enter Tryz.func68, Tryz.ntmps68
    go_wp2
    go_ret
    exact ⟨rfl, Below.refl _ _⟩
  rw [if_neg hp]
  obtain ⟨r, hr⟩ : ∃ r, readF fs p n = r := ⟨_, rfl⟩
  have HR : Hid (readF fs p n = r) := hr
  clear hr
  rw [HR.out]
  obtain ⟨r1, r2⟩ := r
  go_enter Tryz.func68, Tryz.ntmps68
  go_wp2_with fail
  refine (implRead_any a n c p fs _ HP.out).mono ?_
  rintro e w1 ⟨rfl, hb⟩
  rw [HR.out]
  go_wp2
  go_ret
  exact ⟨rfl, hb⟩

theorem knownRow_any (a : Option Addr) (n c : Nat) (k : Int) (fs : List Int) (w : World) (hN : Names w) (h : PairAt w a n fs) :
    Calls Tryz.prog 66 #[.slice a n c, .int .i64 k] w fun e w' => e = .returned (.int .i64 (rd fs n (placeN 1 k))) ∧ Below w.heap.size w w' := by
  have HP : Hid (Names w ∧ PairAt w a n fs) := ⟨hN, h⟩
  clear h hN
  go_enter Tryz.func66, Tryz.ntmps66
  go_wp2_with fail
  refine (implRowAt_any k _ HP.out.1).mono ?_
  rintro e w1 ⟨rfl, hb⟩
  go_wp2_with fail
  refine (knownAt_any a n c _ fs _ (HP.out.2.below hb (Nat.le_refl _))).mono ?_
  rintro e w2 ⟨rfl, hb2⟩
  go_wp2
  go_ret
  exact ⟨rfl, hb.trans (hb2.mono hb.size)⟩

theorem knownOwner_any (a : Option Addr) (n c : Nat) (k : Int) (fs : List Int) (w : World) (hN : Names w) (h : PairAt w a n fs) :
    Calls Tryz.prog 67 #[.slice a n c, .int .i64 k] w fun e w' => e = .returned (.int .i64 (rd fs n (placeN 2 k))) ∧ Below w.heap.size w w' := by
  have HP : Hid (Names w ∧ PairAt w a n fs) := ⟨hN, h⟩
  clear h hN
  go_enter Tryz.func67, Tryz.ntmps67
  go_wp2_with fail
  refine (implOwnerAt_any k _ HP.out.1).mono ?_
  rintro e w1 ⟨rfl, hb⟩
  go_wp2_with fail
  refine (knownAt_any a n c _ fs _ (HP.out.2.below hb (Nat.le_refl _))).mono ?_
  rintro e w2 ⟨rfl, hb2⟩
  go_wp2
  go_ret
  exact ⟨rfl, hb.trans (hb2.mono hb.size)⟩

theorem knownState_any (a : Option Addr) (n c : Nat) (fs : List Int) (w : World) (hN : Names w) (h : PairAt w a n fs) :
    Calls Tryz.prog 69 #[.slice a n c] w fun e w' => e = .returned (.int .i64 (rd fs n 13)) ∧ Below w.heap.size w w' := by
  have HP : Hid (Names w ∧ PairAt w a n fs) := ⟨hN, h⟩
  clear h hN
  go_enter Tryz.func69, Tryz.ntmps69
  go_wp2_with fail
  refine (implStateAt_any _ HP.out.1).mono ?_
  rintro e w1 ⟨rfl, hb⟩
  go_wp2_with fail
  refine (knownAt_any a n c _ fs _ (HP.out.2.below hb (Nat.le_refl _))).mono ?_
  rintro e w2 ⟨rfl, hb2⟩
  go_wp2
  go_ret
  exact ⟨rfl, hb.trans (hb2.mono hb.size)⟩
end
def pureVal (a : Act) : Op → Option Value
  | .move x => some (a.eval x)
  | .assign x => some (a.eval x)
  | .pick c x y => match a.eval c with
    | .bool true => some (a.eval x)
    | .bool false => some (a.eval y)
    | _ => none
  | _ => none
theorem pureVal_run {P : Program} {a : Act} {o : Oper} {v : Value} (h : pureVal a o.op = some v) (w : World) : (execOp a.eval o).run P w = .ok (.value v) w := by
  obtain ⟨dst, op, ty, pos, after, guard⟩ := o
  cases op <;> first | (simp only [pureVal] at h; cases h; done) | skip
  case move x => simp only [pureVal, Option.some.injEq] at h; subst h; simp [execOp, go_sem]
  case assign x => simp only [pureVal, Option.some.injEq] at h; subst h; simp [execOp, go_sem]
  case pick c x y =>
    simp only [pureVal] at h
    split at h
    · rename_i hc; simp only [Option.some.injEq] at h; subst h; simp only [execOp, hc]; rfl
    · rename_i hc; simp only [Option.some.injEq] at h; subst h; simp only [execOp, hc]; rfl
    · cases h
def tailVal (ops : Array Oper) (a : Act) (o : Oper) : Option Value := if Region.wanted o (yielded ops a.tmps) = true then pureVal a o.op else some undef
def tailA (ops : Array Oper) : List Nat → Act → Act
  | [], a => a
  | i :: U, a => match ops[i]? with
    | some o => match tailVal ops a o with
      | some v => tailA ops U (a.put o.dst v)
      | none => a
    | none => a
def tailL : List Nat → Array Bool → Array Bool
  | [], L => L
  | i :: U, L => tailL U (L.setIfInBounds i true)
def tailB (md : Region.Mode) (ops : Array Oper) : List Nat → Array Bool → Act → Bool
  | [], _, _ => true
  | i :: U, L, a => match ops[i]? with
    | some o => match tailVal ops a o with
      | some v => Region.free md ops L i && (Region.ready md ops L).contains i && tailB md ops U (L.setIfInBounds i true) (a.put o.dst v)
      | none => false
    | none => false
theorem wpAnyH_tail {P : Program} {md : Region.Mode} {ops : Array Oper} {Q : Exit → Act → World → Prop} {S : World → Prop} (hs : Region.noSelect ops = true)
    (hQ : ∀ c (a : Act) (d : Option Tmp) (v : Value) w, Q (.panic c) (a.put d v) w → Q (.panic c) a w) {w : World} (hS : S w) :
    ∀ (U : List Nat) (fuel : Nat) (L : Array Bool) (a : Act), tailB md ops U L a = true → wpAnyH P md ops Q S fuel (tailL U L) (tailA ops U a) w → wpAnyH P md ops Q S (fuel + U.length) L a w
  | [], fuel, L, a, _, h => h
  | i :: U, fuel, L, a, hb, h => by
    unfold tailB at hb
    unfold tailA tailL at h
    cases ho : ops[i]? with
    | none => rw [ho] at hb; cases hb
    | some o =>
      rw [ho] at hb h
      dsimp only at hb h
      cases hv : tailVal ops a o with
      | none => rw [hv] at hb; cases hb
      | some v =>
        rw [hv] at hb h
        dsimp only at hb h
        simp only [Bool.and_eq_true] at hb
        obtain ⟨⟨h1, h2⟩, h3⟩ := hb
        have hy : YieldsIf P ops S o v a := by
          unfold tailVal at hv
          by_cases hw : Region.wanted o (yielded ops a.tmps) = true
          · rw [if_pos hw] at hv; exact .inl ⟨hw, fun w _ => pureVal_run hv w⟩
          · rw [if_neg hw] at hv; cases hv; exact .inr ⟨by simpa using hw, rfl⟩
        exact wpAnyH_take ho hs h1 h2 (fun c a' w' => hQ c a' _ _ w') hy hS (wpAnyH_tail hs hQ hS U fuel _ _ h3 h)
theorem wpAnyH_end {P : Program} {md : Region.Mode} {ops : Array Oper} {Q : Exit → Act → World → Prop} {S : World → Prop} {w : World} (hS : S w) (U : List Nat) {L : Array Bool} {a : Act} (a' : Act)
    (hb : tailB md ops U L a = true) (ha : tailA ops U a = a') (hs : Region.noSelect ops = true) (hr : Region.ready md ops (tailL U L) = [])
    (hQ : ∀ c (a : Act) (d : Option Tmp) (v : Value) w, Q (.panic c) (a.put d v) w → Q (.panic c) a w) (h : Q .normal a' w) : wpAnyH P md ops Q S (0 + U.length) L a w :=
  wpAnyH_tail hs hQ hS U 0 L a hb (wpAnyH_done hr (ha ▸ h) _)
theorem takeH {P : Program} {md : Region.Mode} {ops : Array Oper} {Q : Exit → Act → World → Prop} {S : World → Prop} (i : Nat) (v : Value) {oi : Oper} {fuel : Nat} {listed : Array Bool} {a : Act} {w : World}
    (hy : ∀ w, S w → (execOp a.eval oi).run P w = .ok (.value v) w) (hS : S w) (h : wpAnyH P md ops Q S fuel (listed.setIfInBounds i true) (a.put oi.dst v) w)
    (hi : ops[i]? = some oi := by rw [List.getElem?_toArray]; exact rfl) (hs : Region.noSelect ops = true := by as_aux_lemma => kernel_rfl) (hf : Region.free md ops listed i = true := by as_aux_lemma => kernel_rfl)
    (hr : (Region.ready md ops listed).contains i = true := by as_aux_lemma => kernel_rfl) (hQ : ∀ c a w, Q (.panic c) (a.put oi.dst v) w → Q (.panic c) a w := by intro _ _ _ h; exact h)
    (hw : Region.wanted oi (yielded ops a.tmps) = true := by as_aux_lemma => kernel_rfl) : wpAnyH P md ops Q S (fuel + 1) listed a w := wpAnyH_take hi hs hf hr hQ (Or.inl ⟨hw, hy⟩) hS h
section
open Go.ChangeShapes Go.WideShapes Go.ChangeAt Go.RowKit Go.Shelf
attribute [local go_sem] Oper.semAt_some

def encE (x : Ent) : Array Value := #[.agg #[.int .i64 x.1, .int .i64 x.2.1, .int .i64 x.2.2]]
structure Goes (F : Value) (wh : Bool) (a : Option Addr) (n c : Nat) (fs : List Int) (go : Ent → Bool) (W0 : World) (ts : List TypeId) (J Jx : List Ent → World → Prop) : Prop where
  bec : ∀ (p v : Int) (pre : List Ent) (W : World), pre.length < 100 → Below W0.heap.size W0 W → J pre W →
    Calls Tryz.prog 123 #[.agg #[.slice a n c, F, .bool wh], .int .i64 p, .int .i64 v] W fun e W' => ∃ b, e = .returned (.bool b) ∧ Fin wh go W0.heap.size ts J Jx W [becS fs n p v] pre b W'
  gj : Grows J
  gx : Grows Jx
  tt : ∀ t ∈ [110, 93, 94, 95, 102, 96, 97, 98, 100, 56, 29], t ∉ ts
structure Base (W0 : World) (a : Option Addr) (n : Nat) (fs : List Int) : Prop where
  names : Names W0
  pairs : PairAt W0 a n fs
theorem Base.on {W0 W : World} {a : Option Addr} {n : Nat} {fs : List Int} (h : Base W0 a n fs) (hb : Below W0.heap.size W0 W) : Base W a n fs := ⟨h.names.below hb h.names.lt, h.pairs.below hb (Nat.le_refl _)⟩

theorem round_any {m m' : Nat} {P : Program} {l : Nat} {f : FuncId} {tmps : Array Value} {assign body : Code} {w : World} {R : Ending → World → Prop} (h : RoundIn Fence.wide m P l f tmps assign body w R) : RoundIn Fence.wide m' P l f tmps assign body w R :=
  ⟨h.1, fun c cs _ => h.2 c cs (room_wide _)⟩

theorem becomes_none (a : Option Addr) (n c : Nat) (F : Value) (wh : Bool) (p v : Int) (fs : List Int) (go : Ent → Bool) (ts : List TypeId) (J Jx : List Ent → World → Prop) (pre : List Ent) (W0 W : World)
    (hj : Grows J) (hW : Below W0.heap.size W0 W) (hJ : J pre W) (hp : p < 0) :
    Calls Tryz.prog 123 #[.agg #[.slice a n c, F, .bool wh], .int .i64 p, .int .i64 v] W fun e W' => ∃ b, e = .returned (.bool b) ∧ Fin wh go W0.heap.size ts J Jx W [becS fs n p v] pre b W' := by
  have HB : Hid (Grows J ∧ Below W0.heap.size W0 W ∧ J pre W) := ⟨hj, hW, hJ⟩
  have HP : Hid (p < 0) := hp
  clear hj hW hJ
  go_enter Tryz.func123, Tryz.ntmps123
  go_wp2
  go_ret
  refine ⟨wh, rfl, ?_⟩
  unfold becS Fin
  rw [if_neg (Int.not_le.2 HP.out)]
  have hb : Below W.heap.size W (W.alloc (.cells #[.slice a n c, F, .bool wh] 110)) := (Below.refl _ _).alloc (Nat.le_refl _) _
  have h1 := HB.out.1 _ _ _ HB.out.2.2 (far_below hb none)
  have h2 : Kp W0.heap.size ts W (W.alloc (.cells #[.slice a n c, F, .bool wh] 110)) := Kp.of_below hb HB.out.2.1.size
  cases wh with
  | false => rw [if_neg (by simp)]; exact ⟨rfl, h1, h2⟩
  | true => rw [if_pos rfl]; exact ⟨rfl, h1, h2⟩

theorem becomes_yield (a : Option Addr) (n c l : Nat) (wh : Bool) (p v : Int) (fs : List Int) (go : Ent → Bool) (ts : List TypeId) (J Jx : List Ent → World → Prop) (pre : List Ent) (W0 W : World)
    (hR : Rounds Tryz.prog l encE go W0.heap.size ts J Jx) (hj : Grows J) (hB : Base W0 a n fs) (hl : pre.length < 100) (hW : Below W0.heap.size W0 W) (hJ : J pre W) :
    Calls Tryz.prog 123 #[.agg #[.slice a n c, .func (.yield l) #[] #[], .bool wh], .int .i64 p, .int .i64 v] W fun e W' => ∃ b, e = .returned (.bool b) ∧ Fin wh go W0.heap.size ts J Jx W [becS fs n p v] pre b W' := by
  by_cases hp : p < 0
  · exact becomes_none a n c _ wh p v fs go ts J Jx pre W0 W hj hW hJ hp
  have HG : Hid (Rounds Tryz.prog l encE go W0.heap.size ts J Jx ∧ Grows J) := ⟨hR, hj⟩
  have HB : Hid (Base W0 a n fs ∧ Below W0.heap.size W0 W ∧ J pre W) := ⟨hB, hW, hJ⟩
  have HL : Hid (pre.length < 100) := hl
  have HPP : Hid (0 ≤ p) := Int.not_lt.1 hp
  clear hR hj hB hW hJ hl
  have hx : Below W.heap.size W (W.alloc (.cells #[.slice a n c, .func (.yield l) #[] #[], .bool wh] 110)).drew := ((Below.refl _ _).alloc (Nat.le_refl _) _).drew
  have bx : (W.alloc (.cells #[.slice a n c, .func (.yield l) #[] #[], .bool wh] 110)).drew.heap[W.heap.size]? = some (.cells #[.slice a n c, .func (.yield l) #[] #[], .bool wh] 110 (0, 0)) := World.alloc_heap_new W _
  obtain ⟨Wd, hWd⟩ : ∃ Wd, (W.alloc (.cells #[.slice a n c, .func (.yield l) #[] #[], .bool wh] 110)).drew = Wd := ⟨_, rfl⟩
  rw [hWd] at hx bx
  have HX : Hid (Below W.heap.size W Wd ∧ Wd.heap[W.heap.size]? = some (.cells #[.slice a n c, .func (.yield l) #[] #[], .bool wh] 110 (0, 0))) := ⟨hx, bx⟩
  have c0 : Wd.cell? ⟨W.heap.size, 0, none⟩ = some (.slice a n c) := by simp [World.cell?, bx]
  have c1 : Wd.cell? ⟨W.heap.size, 1, none⟩ = some (.func (.yield l) #[] #[]) := by simp [World.cell?, bx]
  clear hx bx
  refine (callsIn_wide (n := 5)).1 ?_
  refine callsIn_of_wp Tryz.func123 rfl trivial ?_ rfl
  simp only [Tryz.ntmps123, List.size_toArray, List.length_cons, List.length_nil, Nat.reduceAdd, Nat.reduceSub, Array.replicate_succ, Array.replicate_zero, List.push_toArray, List.append_toArray, List.nil_append, List.cons_append]
  gi_wp2_with fail
  gi_region_with (first
    | (refine ⟨trivial, ?_⟩
       gi_at_call 68
       refine (callsIn_wide.2 (knownAt_any a n c p fs _ (HB.out.1.on (HB.out.2.1.trans (HX.out.1.mono HB.out.2.1.size))).pairs)).mono ?_
       rintro e w1 ⟨rfl, hb1⟩
       have HK1 : Hid (Below W.heap.size W w1) := HX.out.1.trans (hb1.mono HX.out.1.size)
       have d0 : w1.cell? ⟨W.heap.size, 0, none⟩ = some (.slice a n c) := (hb1.cell (p := ⟨W.heap.size, 0, none⟩) (Array.getElem?_eq_some_iff.1 HX.out.2).1).trans c0
       have d1 : w1.cell? ⟨W.heap.size, 1, none⟩ = some (.func (.yield l) #[] #[]) := (hb1.cell (p := ⟨W.heap.size, 1, none⟩) (Array.getElem?_eq_some_iff.1 HX.out.2).1).trans c1
       obtain ⟨fn, tmps, assign, body, hy, hR⟩ := HG.out.1 pre (p, rd fs n p, v) w1 HL.out (HG.out.2 _ _ _ HB.out.2.2 (far_below HK1.out none))
       dsimp only [encE] at hy
       clear hb1)
    | (first | (refine (round_any hR).mono ?_) | (refine ⟨?_, (round_any hR).mono ?_⟩; (intro _; omega)) | (refine ⟨fun h => absurd h (by decide), (round_any hR).mono ?_⟩)
       rintro e W3 ⟨rfl, hg1, hg2⟩))
  all_goals
    gi_wp2
    go_ret
    refine ⟨go (p, rd fs n p, v), rfl, ?_⟩
    unfold becS Fin
    rw [if_pos HPP.out]
    by_cases hg : go (p, rd fs n p, v) = true
    · rw [if_pos hg]
      exact ⟨hg, (hg1 hg).1, (Kp.of_below HK1.out HB.out.2.1.size).trans (hg1 hg).2⟩
    · rw [if_neg hg]
      have hg' : go (p, rd fs n p, v) = false := by simpa using hg
      exact ⟨hg', (hg2 hg').1, (Kp.of_below HK1.out HB.out.2.1.size).kx.trans (hg2 hg').2⟩
end
section
open Go.ChangeShapes Go.WideShapes Go.ChangeAt Go.RowKit
structure Sits (n₀ : Nat) (ts : List TypeId) (J : List Ent → World → Prop) (a : Option Addr) (n : Nat) (fs : List Int) (W0 Wb W : World) (pre : List Ent) : Prop where
  base : Base W0 a n fs
  low : Below W0.heap.size W0 W
  j : J pre W
  kp : Kp n₀ ts Wb W
theorem Sits.on {ts : List TypeId} {J : List Ent → World → Prop} {a : Option Addr} {n : Nat} {fs : List Int} {W0 Wb W W' : World} {pre : List Ent} (h : Sits W0.heap.size ts J a n fs W0 Wb W pre) (hj : Grows J) (hb : Below W.heap.size W W') : Sits W0.heap.size ts J a n fs W0 Wb W' pre :=
  ⟨h.base, h.low.trans (hb.mono h.low.size), hj _ _ _ h.j (far_below hb none), h.kp.trans (Kp.of_below hb h.low.size)⟩
theorem Sits.names {ts : List TypeId} {J : List Ent → World → Prop} {a : Option Addr} {n n₀ : Nat} {fs : List Int} {W0 Wb W : World} {pre : List Ent} (h : Sits n₀ ts J a n fs W0 Wb W pre) : Names W := (h.base.on h.low).names
theorem Sits.pairs {ts : List TypeId} {J : List Ent → World → Prop} {a : Option Addr} {n n₀ : Nat} {fs : List Int} {W0 Wb W : World} {pre : List Ent} (h : Sits n₀ ts J a n fs W0 Wb W pre) : PairAt W a n fs := (h.base.on h.low).pairs
theorem Sits.told {ts : List TypeId} {J : List Ent → World → Prop} {a : Option Addr} {n : Nat} {fs : List Int} {W0 Wb W W' : World} {pre q : List Ent} (h : Sits W0.heap.size ts J a n fs W0 Wb W pre) (hj : J q W') (hk : Kp W0.heap.size ts W W') : Sits W0.heap.size ts J a n fs W0 Wb W' q :=
  ⟨h.base, h.low.trans hk.low, hj, h.kp.trans hk⟩
abbrev tellCells (a : Option Addr) (n c : Nat) (F : Value) (wh : Bool) : Obj := .cells #[.slice a n c, F, .bool wh] 110 (0, 0)
abbrev TBox (a : Option Addr) (n c : Nat) (F : Value) (wh : Bool) (B : Nat) (w' : World) : Prop := w'.cell? ⟨B, 0, none⟩ = some (.slice a n c) ∧ w'.cell? ⟨B, 1, none⟩ = some F ∧ w'.cell? ⟨B, 2, none⟩ = some (.bool wh)
theorem tbox_of {a : Option Addr} {n c : Nat} {F : Value} {wh : Bool} {B : Nat} {w' : World} (h : w'.heap[B]? = some (tellCells a n c F wh)) : TBox a n c F wh B w' := ⟨by simp [World.cell?, h], by simp [World.cell?, h], by simp [World.cell?, h]⟩

theorem stays_any (a : Option Addr) (n c : Nat) (F : Value) (wh : Bool) (p : Int) (fs : List Int) (go : Ent → Bool) (ts : List TypeId) (J Jx : List Ent → World → Prop) (pre : List Ent) (W0 W : World)
    (hG : Goes F wh a n c fs go W0 ts J Jx) (hB : Base W0 a n fs) (hl : pre.length < 100) (hW : Below W0.heap.size W0 W) (hJ : J pre W) :
    Calls Tryz.prog 104 #[.agg #[.slice a n c, F, .bool wh], .int .i64 p] W fun e W' => ∃ b, e = .returned (.bool b) ∧ Fin wh go W0.heap.size ts J Jx W [stayS fs n p] pre b W' := by
  have HG : Hid (Goes F wh a n c fs go W0 ts J Jx) := hG
  have HL : Hid (pre.length < 100) := hl
  clear hl
  obtain ⟨Wd, hWd⟩ : ∃ Wd, (W.alloc (.cells #[.slice a n c, F, .bool wh] 110)).drew = Wd := ⟨_, rfl⟩
  have hx : Below W.heap.size W Wd := by rw [← hWd]; exact ((Below.refl _ _).alloc (Nat.le_refl _) _).drew
  have bx : Wd.heap[W.heap.size]? = some (tellCells a n c F wh) := by rw [← hWd]; exact World.alloc_heap_new W _
  have HX : Hid (Wd.heap[W.heap.size]? = some (tellCells a n c F wh)) := bx
  have HS : Hid (Sits W0.heap.size ts J a n fs W0 W Wd pre) := (show Sits W0.heap.size ts J a n fs W0 W W pre from ⟨hB, hW, hJ, Kp.of_below (Below.refl _ _) hW.size⟩).on hG.gj hx
  have K0 : Hid (TBox a n c F wh W.heap.size Wd) := tbox_of bx
  clear hG hB hW hJ hx bx
  go_enter Tryz.func104, Tryz.ntmps104
  go_wp2_with fail
  go_region_held3 (fun w' => w'.cell? ⟨W.heap.size, 0, none⟩ = some (.slice a n c) ∧ w'.cell? ⟨W.heap.size, 1, none⟩ = some F ∧ w'.cell? ⟨W.heap.size, 2, none⟩ = some (.bool wh))
    (first | (with_reducible exact K2.out) | (with_reducible exact K1.out) | (with_reducible exact K0.out) | exact hWd ▸ K0.out | go_keep)
    (first
    | (go_at_call 68
       refine (knownAt_any a n c p fs _ (by first | exact HS.out.pairs | exact hWd ▸ HS.out.pairs)).mono ?_
       rintro e w1 ⟨rfl, hb1⟩
       have HS1 : Hid (Sits W0.heap.size ts J a n fs W0 W w1 pre) := HS.out.on HG.out.gj (by first | exact hb1 | exact hWd ▸ hb1)
       have K1h : Hid (w1.heap[W.heap.size]? = some (tellCells a n c F wh)) := (((by first | exact hb1 | exact hWd ▸ hb1 : Below Wd.heap.size Wd w1).block _ (Array.getElem?_eq_some_iff.1 HX.out).1).trans HX.out)
       have K1 : Hid (TBox a n c F wh W.heap.size w1) := tbox_of K1h.out
       clear hb1)
    | (go_at_call 123
       refine (HG.out.bec p (rd fs n p) pre _ HL.out HS1.out.low HS1.out.j).mono ?_
       rintro e w2 ⟨b, rfl, hF⟩
       have HF : Hid (Fin wh go W0.heap.size ts J Jx W [becS fs n p (rd fs n p)] pre b w2) := Fin.kp HS1.out.kp hF
       have K2 : Hid (TBox a n c F wh W.heap.size w2) := tbox_of (hF.kx.keep _ _ _ _ K1h.out (HG.out.tt _ (by simp)))
       clear hF))
  go_wp2
  go_ret
  exact ⟨b, rfl, HF.out⟩

theorem wrapEq (x : Int) : IntKind.i64.wrap x = wrap64 x := by rw [IntKind.wrap_i64]; unfold wrap64; rfl

theorem grows_any (a : Option Addr) (n c : Nat) (F : Value) (wh : Bool) (p : Int) (fs : List Int) (go : Ent → Bool) (ts : List TypeId) (J Jx : List Ent → World → Prop) (pre : List Ent) (W0 W : World)
    (hG : Goes F wh a n c fs go W0 ts J Jx) (hB : Base W0 a n fs) (hl : pre.length < 100) (hW : Below W0.heap.size W0 W) (hJ : J pre W) :
    Calls Tryz.prog 106 #[.agg #[.slice a n c, F, .bool wh], .int .i64 p] W fun e W' => ∃ b, e = .returned (.bool b) ∧ Fin wh go W0.heap.size ts J Jx W [growS fs n p] pre b W' := by
  have HG : Hid (Goes F wh a n c fs go W0 ts J Jx) := hG
  have HL : Hid (pre.length < 100) := hl
  clear hl
  obtain ⟨Wd, hWd⟩ : ∃ Wd, (W.alloc (.cells #[.slice a n c, F, .bool wh] 110)).drew = Wd := ⟨_, rfl⟩
  have hx : Below W.heap.size W Wd := by rw [← hWd]; exact ((Below.refl _ _).alloc (Nat.le_refl _) _).drew
  have bx : Wd.heap[W.heap.size]? = some (tellCells a n c F wh) := by rw [← hWd]; exact World.alloc_heap_new W _
  have HX : Hid (Wd.heap[W.heap.size]? = some (tellCells a n c F wh)) := bx
  have HS : Hid (Sits W0.heap.size ts J a n fs W0 W Wd pre) := (show Sits W0.heap.size ts J a n fs W0 W W pre from ⟨hB, hW, hJ, Kp.of_below (Below.refl _ _) hW.size⟩).on hG.gj hx
  have K0 : Hid (TBox a n c F wh W.heap.size Wd) := tbox_of bx
  clear hG hB hW hJ hx bx
  go_enter Tryz.func106, Tryz.ntmps106
  go_wp2_with fail
  go_region_held3 (fun w' => w'.cell? ⟨W.heap.size, 0, none⟩ = some (.slice a n c) ∧ w'.cell? ⟨W.heap.size, 1, none⟩ = some F ∧ w'.cell? ⟨W.heap.size, 2, none⟩ = some (.bool wh))
    (first | (with_reducible exact K2.out) | (with_reducible exact K1.out) | (with_reducible exact K0.out) | exact hWd ▸ K0.out | go_keep)
    (first
    | (go_at_call 68
       refine (knownAt_any a n c p fs _ (by first | exact HS.out.pairs | exact hWd ▸ HS.out.pairs)).mono ?_
       rintro e w1 ⟨rfl, hb1⟩
       have HS1 : Hid (Sits W0.heap.size ts J a n fs W0 W w1 pre) := HS.out.on HG.out.gj (by first | exact hb1 | exact hWd ▸ hb1)
       have K1h : Hid (w1.heap[W.heap.size]? = some (tellCells a n c F wh)) := (((by first | exact hb1 | exact hWd ▸ hb1 : Below Wd.heap.size Wd w1).block _ (Array.getElem?_eq_some_iff.1 HX.out).1).trans HX.out)
       have K1 : Hid (TBox a n c F wh W.heap.size w1) := tbox_of K1h.out
       clear hb1)
    | (go_at_call 123
       (try rw [wrapEq])
       refine (HG.out.bec p (wrap64 (rd fs n p + 1)) pre _ HL.out HS1.out.low HS1.out.j).mono ?_
       rintro e w2 ⟨b, rfl, hF⟩
       have HF : Hid (Fin wh go W0.heap.size ts J Jx W [becS fs n p (wrap64 (rd fs n p + 1))] pre b w2) := Fin.kp HS1.out.kp hF
       have K2 : Hid (TBox a n c F wh W.heap.size w2) := tbox_of (hF.kx.keep _ _ _ _ K1h.out (HG.out.tt _ (by simp)))
       clear hF))
  go_wp2
  go_ret
  exact ⟨b, rfl, HF.out⟩


theorem shrinks_any (a : Option Addr) (n c : Nat) (F : Value) (wh : Bool) (p : Int) (fs : List Int) (go : Ent → Bool) (ts : List TypeId) (J Jx : List Ent → World → Prop) (pre : List Ent) (W0 W : World)
    (hG : Goes F wh a n c fs go W0 ts J Jx) (hB : Base W0 a n fs) (hl : pre.length < 100) (hW : Below W0.heap.size W0 W) (hJ : J pre W) :
    Calls Tryz.prog 126 #[.agg #[.slice a n c, F, .bool wh], .int .i64 p] W fun e W' => ∃ b, e = .returned (.bool b) ∧ Fin wh go W0.heap.size ts J Jx W [shrinkS fs n p] pre b W' := by
  have HG : Hid (Goes F wh a n c fs go W0 ts J Jx) := hG
  have HL : Hid (pre.length < 100) := hl
  clear hl
  obtain ⟨Wd, hWd⟩ : ∃ Wd, (W.alloc (.cells #[.slice a n c, F, .bool wh] 110)).drew = Wd := ⟨_, rfl⟩
  have hx : Below W.heap.size W Wd := by rw [← hWd]; exact ((Below.refl _ _).alloc (Nat.le_refl _) _).drew
  have bx : Wd.heap[W.heap.size]? = some (tellCells a n c F wh) := by rw [← hWd]; exact World.alloc_heap_new W _
  have HX : Hid (Wd.heap[W.heap.size]? = some (tellCells a n c F wh)) := bx
  have HS : Hid (Sits W0.heap.size ts J a n fs W0 W Wd pre) := (show Sits W0.heap.size ts J a n fs W0 W W pre from ⟨hB, hW, hJ, Kp.of_below (Below.refl _ _) hW.size⟩).on hG.gj hx
  have K0 : Hid (TBox a n c F wh W.heap.size Wd) := tbox_of bx
  clear hG hB hW hJ hx bx
  go_enter Tryz.func126, Tryz.ntmps126
  go_wp2_with fail
  go_region_held3 (fun w' => w'.cell? ⟨W.heap.size, 0, none⟩ = some (.slice a n c) ∧ w'.cell? ⟨W.heap.size, 1, none⟩ = some F ∧ w'.cell? ⟨W.heap.size, 2, none⟩ = some (.bool wh))
    (first | (with_reducible exact K2.out) | (with_reducible exact K1.out) | (with_reducible exact K0.out) | exact hWd ▸ K0.out | go_keep)
    (first
    | (go_at_call 68
       refine (knownAt_any a n c p fs _ (by first | exact HS.out.pairs | exact hWd ▸ HS.out.pairs)).mono ?_
       rintro e w1 ⟨rfl, hb1⟩
       have HS1 : Hid (Sits W0.heap.size ts J a n fs W0 W w1 pre) := HS.out.on HG.out.gj (by first | exact hb1 | exact hWd ▸ hb1)
       have K1h : Hid (w1.heap[W.heap.size]? = some (tellCells a n c F wh)) := (((by first | exact hb1 | exact hWd ▸ hb1 : Below Wd.heap.size Wd w1).block _ (Array.getElem?_eq_some_iff.1 HX.out).1).trans HX.out)
       have K1 : Hid (TBox a n c F wh W.heap.size w1) := tbox_of K1h.out
       clear hb1)
    | (go_at_call 123
       (generalize hm : (if rd fs n p < 1 then (1 : Int) else rd fs n p) = m)
       have HM : Hid ((if rd fs n p < 1 then (1 : Int) else rd fs n p) = m) := hm
       clear hm
       (try rw [wrapEq])
       refine (HG.out.bec p (wrap64 (m - 1)) pre _ HL.out HS1.out.low HS1.out.j).mono ?_
       rintro e w2 ⟨b, rfl, hF⟩
       have HF : Hid (Fin wh go W0.heap.size ts J Jx W [becS fs n p (wrap64 ((if rd fs n p < 1 then 1 else rd fs n p) - 1))] pre b w2) := by rw [HM.out]; exact Fin.kp HS1.out.kp hF
       have K2 : Hid (TBox a n c F wh W.heap.size w2) := tbox_of (hF.kx.keep _ _ _ _ K1h.out (HG.out.tt _ (by simp)))
       clear hF))
  go_wp2
  go_ret
  exact ⟨b, rfl, HF.out⟩

theorem inVia_any (a : Option Addr) (n c : Nat) (F : Value) (wh : Bool) (k : Int) (fs : List Int) (w : World) (hN : Names w) (h : PairAt w a n fs) (hk : 0 ≤ k ∧ k ≤ 3) :
    Calls Tryz.prog 124 #[.agg #[.slice a n c, F, .bool wh], .int .i64 k] w fun e w' => e = .returned (.bool (wh || decide (k + 1 < rd fs n 13))) ∧ Below w.heap.size w w' := by
  have hx : Below w.heap.size w (w.alloc (.cells #[.slice a n c, F, .bool wh] 110)) := (Below.refl _ _).alloc (Nat.le_refl _) _
  have HX : Hid (Below w.heap.size w (w.alloc (.cells #[.slice a n c, F, .bool wh] 110))) := hx
  have HP : Hid (Names (w.alloc (.cells #[.slice a n c, F, .bool wh] 110)) ∧ PairAt (w.alloc (.cells #[.slice a n c, F, .bool wh] 110)) a n fs) := ⟨hN.below hx hN.lt, h.below hx (Nat.le_refl _)⟩
  clear h hN hx
  obtain ⟨r, hr⟩ : ∃ r, rd fs n 13 = r := ⟨_, rfl⟩
  have HR : Hid (rd fs n 13 = r) := hr
  clear hr
  rw [HR.out]
  cases wh with
  | true =>
    go_enter Tryz.func124, Tryz.ntmps124
    go_wp2
    go_ret
    exact ⟨rfl, HX.out⟩
  | false =>
    go_enter Tryz.func124, Tryz.ntmps124
    go_wp2_with fail
    refine (knownState_any a n c fs _ HP.out.1 HP.out.2).mono ?_
    rintro e w1 ⟨rfl, hb1⟩
    have HB1 : Hid (Below w.heap.size w w1) := HX.out.trans (hb1.mono HX.out.size)
    clear hb1
    rw [HR.out]
    by_cases hlt : k + 1 < r
    · go_wp2
      go_ret
      exact ⟨by first | rfl | (simp; done) | (simp [hlt]; done), HB1.out⟩
    · go_wp2
      go_ret
      exact ⟨by first | rfl | (simp; done) | (simp [hlt]; done), HB1.out⟩
theorem specCountAt_any (k : Int) (w : World) :
    Calls Tryz.prog 63 #[.int .i64 k] w fun e w' => e = .returned (.int .i64 (placeN 3 k)) ∧ w' = w := by
  by_cases h : 0 ≤ k ∧ k ≤ 2
  · have hp : placeN 3 k = 10 + k := by unfold placeN; repeat' split <;> omega
    rw [hp]
    clear hp
    obtain ⟨h0, h1⟩ := h
    go_enter Tryz.func63, Tryz.ntmps63
    go_wp2
    go_ret
    exact ⟨rfl, rfl⟩
  · have hp : placeN 3 k = -1 := by unfold placeN; repeat' split <;> omega
    rw [hp]
    clear hp
    by_cases h0 : 0 ≤ k
    · have h1 : ¬ k ≤ 2 := by omega
      clear h
      go_enter Tryz.func63, Tryz.ntmps63
      go_wp2
      go_ret
      exact ⟨rfl, rfl⟩
    · have h1 : k < 0 := by omega
      clear h h0
      go_enter Tryz.func63, Tryz.ntmps63
      go_wp2
      go_ret
      exact ⟨rfl, rfl⟩

theorem implCountAt_any (k : Int) (w : World) (hN : Names w) :
    Calls Tryz.prog 48 #[.int .i64 k] w fun e w' => e = .returned (.int .i64 (placeN 3 k)) ∧ Below w.heap.size w w' := by
  go_enter Tryz.func48, Tryz.ntmps48
  go_wp2_with (go_at_call 87; refine (placeOf_any 3 k _ hN).mono ?_; rintro e w1 ⟨rfl, hb⟩)
  go_ret
  exact ⟨rfl, hb⟩
end
end Go.Proofs.YtenlapppaimkkabGreatDoor
