/- Texts joined: SpecHow, AllowM, AfterD, DrawRows, DrawOps, ImplHow. -/
import Derived.Test.YtenlapppaimkkabGreatDoorPL20
import Derived.Test.YtenlapppaimkkabGreatDoorPL01
import Derived.Test.YtenlapppaimkkabGreatDoorPL03
import Derived.Test.YtenlapppaimkkabGreatDoorPL15
import Derived.Test.YtenlapppaimkkabGreatDoorPL19
import Derived.Maps.AppendAt
import Derived.OwnWalk
import Derived.Deep.RegionHeld3
set_option maxHeartbeats 1000000
set_option maxRecDepth 100000
namespace Go.Proofs.YtenlapppaimkkabGreatDoor
section
open Go.ChangeShapes Go.WideShapes Go.ChangeAt Go.RowKit
def cntK (xs : List Int) (c : Int) : Nat → Int
  | 0 => 0
  | k + 1 => cntK xs c k + bitW (xs.getD k 0) c
theorem bitW_le (y c : Int) : 0 ≤ bitW y c ∧ bitW y c ≤ 1 := by unfold bitW; split <;> omega
theorem cntK_le (xs : List Int) (c : Int) (k : Nat) : 0 ≤ cntK xs c k ∧ cntK xs c k ≤ (k : Int) := by
  induction k with
  | zero => simp [cntK]
  | succ k ih =>
    have := bitW_le (xs.getD k 0) c
    simp only [cntK]
    omega
theorem cntK_four (xs : List Int) (c : Int) : cntK xs c 4 = clsW (xs.getD 0 0) (xs.getD 1 0) (xs.getD 2 0) (xs.getD 3 0) c := by
  simp [cntK, clsW]

theorem l1Bit_any (b : Bool) (w : World) : Calls Tryz.prog 91 #[.bool b] w fun e w' => e = .returned (.int .i64 (if b then 1 else 0)) ∧ w' = w := by
  cases b
  · go_enter Tryz.func91, Tryz.ntmps91
    go_wp2
    go_ret
    exact ⟨rfl, rfl⟩
  · go_enter Tryz.func91, Tryz.ntmps91
    go_wp2
    go_ret
    exact ⟨rfl, rfl⟩

theorem specHowMany_four (a : Option Addr) (cp : Nat) (st c : Int) (xs : List Int) (w : World) (hA : IntAt w a 4 xs) :
    Calls Tryz.prog 62 #[.agg #[.slice a 4 cp, .int .i64 st], .int .i64 c] w fun e w' => e = .returned (.int .i64 (cntK xs c 4)) ∧ Below w.heap.size w w' := by
  have HA : Hid (IntAt w a 4 xs) := hA
  clear hA
  go_enter Tryz.func62, Tryz.ntmps62
  go_wp2
  go_loopw [5, 6] (fun q i wr => ∃ k : Nat, k ≤ 4 ∧ q = .int .i64 (cntK xs c k) ∧ i = .int .i64 (k : Int) ∧ Below (w.heap.size + 1) (w.alloc (.cells #[.slice a 4 cp, .int .i64 st] 26)) wr) (fun _ i _ => 4 - (intOf i).toNat)
  case atStart => exact ⟨0, Nat.zero_le _, rfl, rfl, Below.refl _ _⟩
  case round =>
    obtain ⟨k, hk, rfl, rfl, hb⟩ := hrel
    have hbw : Below w.heap.size w wr := ((Below.refl _ w).alloc (Nat.le_refl _) _).trans (hb.mono (Nat.le_succ _))
    have hc0 : wr.cell? ⟨w.heap.size, 0, none⟩ = some (.slice a 4 cp) := by rw [hb.cell (by simp)]; simp
    by_cases hlt : k < 4
    · rcases (HA.out.below hbw (Nat.le_refl _)).2.2 with h0 | ⟨p1, o1, rfl, g1⟩
      · omega
      have e1 := g1 k hlt
      obtain ⟨x, hx⟩ : ∃ x, xs.getD k 0 = x := ⟨_, rfl⟩
      rw [hx] at e1
      obtain ⟨q, hq⟩ : ∃ q, cntK xs c k = q := ⟨_, rfl⟩
      have hqb := cntK_le xs c k
      have hnext : Hid (cntK xs c (k + 1) = cntK xs c k + bitW x c) := by rw [← hx]; rfl
      rw [hq] at hqb ⊢
      have HQ : Hid (cntK xs c k = q) := hq
      clear g1 hx hq
      by_cases hv : 1 ≤ x ∧ x ≤ 6
      · by_cases hc : classN x = c
        · have hbit : Hid (bitW x c = 1) := by simp [Hid, bitW, hv, hc]
          have hcc : (classN x == c) = true := by simpa using hc
          clear hc
          go_wp2_with (first
            | (go_at_call 79; refine (specValOk_any x _).mono ?_; rintro e w1 ⟨rfl, rfl⟩; rw [show decide (1 ≤ x ∧ x ≤ 6) = true from decide_eq_true hv])
            | (go_at_call 80; refine (specClassOf_any x _).mono ?_; rintro e w1 ⟨rfl, rfl⟩)
            | (go_at_call 91; refine (l1Bit_any _ _).mono ?_; rintro e w1 ⟨rfl, rfl⟩))
          exact ⟨⟨k + 1, by omega, by rw [hnext.out, HQ.out, hbit.out], by go_num, hb⟩, by simp [intOf]; omega⟩
        · have hbit : Hid (bitW x c = 0) := by simp [Hid, bitW, hc]
          have hcc : (classN x == c) = false := by simpa using hc
          clear hc
          go_wp2_with (first
            | (go_at_call 79; refine (specValOk_any x _).mono ?_; rintro e w1 ⟨rfl, rfl⟩; rw [show decide (1 ≤ x ∧ x ≤ 6) = true from decide_eq_true hv])
            | (go_at_call 80; refine (specClassOf_any x _).mono ?_; rintro e w1 ⟨rfl, rfl⟩)
            | (go_at_call 91; refine (l1Bit_any _ _).mono ?_; rintro e w1 ⟨rfl, rfl⟩))
          exact ⟨⟨k + 1, by omega, by rw [hnext.out, HQ.out, hbit.out, Int.add_zero], by go_num, hb⟩, by simp [intOf]; omega⟩
      · have hbit : Hid (bitW x c = 0) := by simp [Hid, bitW, hv]
        go_wp2_with (first
          | (go_at_call 79; refine (specValOk_any x _).mono ?_; rintro e w1 ⟨rfl, rfl⟩; rw [show decide (1 ≤ x ∧ x ≤ 6) = false from decide_eq_false hv])
          | (go_at_call 91; refine (l1Bit_any _ _).mono ?_; rintro e w1 ⟨rfl, rfl⟩))
        exact ⟨⟨k + 1, by omega, by rw [hnext.out, HQ.out, hbit.out, Int.add_zero], by go_num, hb⟩, by simp [intOf]; omega⟩
    · obtain rfl : k = 4 := by omega
      go_wp2
      go_ret
      exact ⟨rfl, hbw⟩
end
def keyN (xs : List Int) (v : Int) : Int :=
  if xs.getD 0 0 = v then 0 else if xs.getD 1 0 = v then 1 else if xs.getD 2 0 = v then 2 else if xs.getD 3 0 = v then 3 else -1
theorem keyN_is (xs : List Int) (v : Int) : KeyIs xs 4 v (keyN xs v) := by
  unfold keyN
  split
  · exact .inr ⟨0, by omega, rfl, by assumption, fun j hj => by omega⟩
  split
  · exact .inr ⟨1, by omega, rfl, by assumption, fun j hj => by obtain rfl : j = 0 := by omega
                                                                assumption⟩
  split
  · exact .inr ⟨2, by omega, rfl, by assumption, fun j hj => by rcases (show j = 0 ∨ j = 1 by omega) with rfl | rfl <;> assumption⟩
  split
  · exact .inr ⟨3, by omega, rfl, by assumption, fun j hj => by rcases (show j = 0 ∨ j = 1 ∨ j = 2 by omega) with rfl | rfl | rfl <;> assumption⟩
  · exact .inl ⟨rfl, fun j hj => by rcases (show j = 0 ∨ j = 1 ∨ j = 2 ∨ j = 3 by omega) with rfl | rfl | rfl | rfl <;> assumption⟩
theorem KeyIs.keyN {xs : List Int} {v r : Int} (h : KeyIs xs 4 v r) : r = keyN xs v := h.one (keyN_is xs v)
theorem keyN_le (xs : List Int) (v : Int) : -1 ≤ keyN xs v ∧ keyN xs v ≤ 3 := by unfold Go.Proofs.YtenlapppaimkkabGreatDoor.keyN; repeat (first | split | omega)

abbrev atK (xs : List Int) (k : Int) : Int := xs.getD k.toNat 0
def FailsM (xs : List Int) (st kind k v code : Int) : Prop :=
  (code = 1 ∧ kind = 1 ∧ atK xs k ≠ 0) ∨ (code = 2 ∧ (kind = 1 ∨ kind = 2) ∧ 0 ≤ keyN xs v)
  ∨ (code = 3 ∧ (((kind = 2 ∨ kind = 3 ∨ kind = 4) ∧ atK xs k = 0) ∨ (kind = 5 ∧ keyN xs v < 0) ∨ (kind = 10 ∧ st = 5 ∧ keyN xs v < 0)))
  ∨ (code = 4 ∧ ((kind = 8 ∧ st ≠ 0) ∨ (kind = 9 ∧ (st = 0 ∨ st = 5)) ∨ (kind = 10 ∧ st ≠ 5)))
def DoneM (xs : List Int) (st kind k v : Int) : Prop :=
  (kind = 1 ∧ atK xs k = 0 ∧ keyN xs v < 0) ∨ (kind = 2 ∧ atK xs k ≠ 0 ∧ (keyN xs v < 0 ∨ keyN xs v = k)) ∨ (kind = 3 ∧ atK xs k ≠ 0) ∨ (kind = 4 ∧ atK xs k ≠ 0)
  ∨ (kind = 5 ∧ 0 ≤ keyN xs v) ∨ kind = 6 ∨ kind = 7 ∨ (kind = 8 ∧ st = 0) ∨ (kind = 9 ∧ 1 ≤ st ∧ st ≤ 4) ∨ (kind = 10 ∧ st = 5 ∧ 0 ≤ keyN xs v)
def listM (xs : List Int) (kind k v : Int) : List Int :=
  if kind = 4 then [atK xs k] else if kind = 5 ∨ kind = 10 then [keyN xs v] else if kind = 6 then [cntK xs k 4] else if kind = 7 then xs else []
def AllowM (xs : List Int) (st kind k v code : Int) (ys : List Int) : Prop :=
  OkRows xs st ∧ OpGood kind k v ∧ ((code ≠ 0 ∧ ys = [] ∧ FailsM xs st kind k v code) ∨ (code = 0 ∧ DoneM xs st kind k v ∧ listM xs kind k v = ys))
def AfterM (xs : List Int) (st kind k v code : Int) (ys zs : List Int) (st' : Int) : Prop :=
  (AllowM xs st kind k v code ys ∧ code = 0 ∧ (((kind = 1 ∨ kind = 2) ∧ zs = xs.set k.toNat v ∧ st' = st) ∨ (kind = 3 ∧ zs = xs.set k.toNat 0 ∧ st' = st)
    ∨ ((kind = 8 ∨ kind = 9) ∧ zs = xs ∧ st' = st + 1) ∨ ((4 ≤ kind ∧ kind ≤ 7 ∨ kind = 10) ∧ zs = xs ∧ st' = st)))
  ∨ (¬ (AllowM xs st kind k v code ys ∧ code = 0) ∧ zs = xs ∧ st' = st)
theorem AfterM.one {xs : List Int} {st kind k v code : Int} {ys zs zs2 : List Int} {s1 s2 : Int} (h : AfterM xs st kind k v code ys zs s1) (g : AfterM xs st kind k v code ys zs2 s2) : zs = zs2 ∧ s1 = s2 := by
  rcases h with ⟨ha, hc, h⟩ | ⟨hn, h1, h2⟩
  · rcases g with ⟨_, _, g⟩ | ⟨gn, _⟩
    · rcases h with ⟨h0, rfl, rfl⟩ | ⟨h0, rfl, rfl⟩ | ⟨h0, rfl, rfl⟩ | ⟨h0, rfl, rfl⟩ <;> rcases g with ⟨g0, rfl, rfl⟩ | ⟨g0, rfl, rfl⟩ | ⟨g0, rfl, rfl⟩ | ⟨g0, rfl, rfl⟩ <;> first | exact ⟨rfl, rfl⟩ | (exfalso; omega)
    · exact absurd ⟨ha, hc⟩ gn
  · rcases g with ⟨ga, gc, _⟩ | ⟨_, g1, g2⟩
    · exact absurd ⟨ga, gc⟩ hn
    · exact ⟨h1.trans g1.symm, h2.trans g2.symm⟩
instance (xs : List Int) (st kind k v code : Int) : Decidable (FailsM xs st kind k v code) := by unfold FailsM; infer_instance
instance (xs : List Int) (st kind k v : Int) : Decidable (DoneM xs st kind k v) := by unfold DoneM; infer_instance
section
open Go.ChangeShapes Go.WideShapes Go.ChangeAt Go.RowKit
theorem codes (code : Int) : code = 1 ∨ code = 2 ∨ code = 3 ∨ code = 4 ∨ ((code == 1) = false ∧ (code == 2) = false ∧ (code == 3) = false ∧ (code == 4) = false) := by
  simp only [beq_eq_false_iff_ne, ne_eq]; omega
def DoneSays (e : Ending) (w' : World) (zs : List Int) (b : Bool) : Prop := ∃ (a' : Option Addr) (c' : Nat), e = .returned (.tuple #[.slice a' zs.length c', .bool b]) ∧ IntAt w' a' zs.length zs

def Args (w : World) (ra oa sa : Array Value) (wr : World) : Prop :=
  (∀ i u, ra[i]? = some u → wr.cell? ⟨w.heap.size, i, none⟩ = some u) ∧ (∀ i u, oa[i]? = some u → wr.cell? ⟨w.heap.size + 1, i, none⟩ = some u) ∧ (∀ i u, sa[i]? = some u → wr.cell? ⟨w.heap.size + 1 + 1, i, none⟩ = some u)
theorem args_at (w : World) (ra oa sa : Array Value) (T1 T2 T3 : TypeId) (wr : World) (h : Below (w.heap.size + 1 + 1 + 1) (((w.alloc (.cells ra T1)).alloc (.cells oa T2)).alloc (.cells sa T3)) wr) : Args w ra oa sa wr := by
  refine ⟨fun i u hu => ?_, fun i u hu => ?_, fun i u hu => ?_⟩
  · rw [h.cell (show w.heap.size < w.heap.size + 1 + 1 + 1 by omega), World.cell?_alloc_past _ _ _ (by simp; omega), World.cell?_alloc_past _ _ _ (by simp), World.cell?_alloc_at _ _ _ _ rfl]
    exact hu
  · rw [h.cell (show w.heap.size + 1 < w.heap.size + 1 + 1 + 1 by omega), World.cell?_alloc_past _ _ _ (by simp), World.cell?_alloc_at _ _ _ _ (by simp)]
    exact hu
  · rw [h.cell (show w.heap.size + 1 + 1 < w.heap.size + 1 + 1 + 1 by omega), World.cell?_alloc_at _ _ _ _ (by simp)]
    exact hu
def Four (w : World) (ra oa sa va : Array Value) (wr : World) : Prop :=
  (∀ i u, ra[i]? = some u → wr.cell? ⟨w.heap.size, i, none⟩ = some u) ∧ (∀ i u, oa[i]? = some u → wr.cell? ⟨w.heap.size + 1, i, none⟩ = some u) ∧ (∀ i u, sa[i]? = some u → wr.cell? ⟨w.heap.size + 1 + 1, i, none⟩ = some u)
    ∧ (∀ i u, va[i]? = some u → wr.cell? ⟨w.heap.size + 1 + 1 + 1, i, none⟩ = some u) ∧ (∀ i, wr.frozen? ⟨w.heap.size + 1 + 1 + 1, i, none⟩ = false)
theorem four_at (w : World) (ra oa sa va : Array Value) (T1 T2 T3 T4 : TypeId) (wr : World) (h : Below (w.heap.size + 1 + 1 + 1 + 1) ((((w.alloc (.cells ra T1)).alloc (.cells oa T2)).alloc (.cells sa T3)).alloc (.cells va T4)) wr) : Four w ra oa sa va wr := by
  refine ⟨fun i u hu => ?_, fun i u hu => ?_, fun i u hu => ?_, fun i u hu => ?_, fun i => ?_⟩
  · rw [h.cell (show w.heap.size < w.heap.size + 1 + 1 + 1 + 1 by omega), World.cell?_alloc_past _ _ _ (by simp; omega), World.cell?_alloc_past _ _ _ (by simp; omega), World.cell?_alloc_past _ _ _ (by simp), World.cell?_alloc_at _ _ _ _ rfl]
    exact hu
  · rw [h.cell (show w.heap.size + 1 < w.heap.size + 1 + 1 + 1 + 1 by omega), World.cell?_alloc_past _ _ _ (by simp; try omega), World.cell?_alloc_past _ _ _ (by simp), World.cell?_alloc_at _ _ _ _ (by simp)]
    exact hu
  · rw [h.cell (show w.heap.size + 1 + 1 < w.heap.size + 1 + 1 + 1 + 1 by omega), World.cell?_alloc_past _ _ _ (by simp), World.cell?_alloc_at _ _ _ _ (by simp)]
    exact hu
  · rw [h.cell (show w.heap.size + 1 + 1 + 1 < w.heap.size + 1 + 1 + 1 + 1 by omega), World.cell?_alloc_at _ _ _ _ (by simp)]
    exact hu
  · rw [h.frozen (show w.heap.size + 1 + 1 + 1 < w.heap.size + 1 + 1 + 1 + 1 by omega)]
    simp [World.frozen?_alloc_at]

def AfterSays (e : Ending) (w w' : World) (n : Nat) (A : List Int → Int → Prop) : Prop :=
  ∃ (zs : List Int) (st' : Int) (a' : Option Addr) (c' : Nat), e = .returned (.agg #[.slice a' n c', .int .i64 st']) ∧ A zs st' ∧ w'.ownsRow w.heap.size 3 1 (.slice a' n c') n (zs.map I)
theorem far_only {p : Nat} {w w' : World} (h : Only p w w') : w.grownBy w' (some p) := ⟨h.os, h.tape, h.output, Nat.le_of_eq h.size.symm, fun k _ hk => h.block k (fun e => hk (by rw [e]))⟩
theorem cur_below {T : TypeId} {w w' : World} {p : Nat} {a : Option Addr} {n c : Nat} (h : Cur T w p a n c) (hb : Below w.heap.size w w') : Cur T w' p a n c :=
  h.keep fun k hk => hb.block k (Nat.lt_of_le_of_lt hk h.lt)
theorem cur_set {T : TypeId} {w : World} {p : Nat} {a : Option Addr} {n c : Nat} (h : Cur T w p a n c) {q : Addr} (hq : p < q.block) (v : Value) : Cur T (w.setCell q v) p a n c :=
  h.keep fun k hk => Below.heap_setCell _ _ _ _ (fun e => by omega)
theorem cur_alloc {T : TypeId} {w : World} {p : Nat} {a : Option Addr} {n c : Nat} (h : Cur T w p a n c) (o : Obj) : Cur T (w.alloc o) p a n c := cur_below h ((Below.refl _ w).alloc (Nat.le_refl _) o)
theorem own_only {p : Nat} {w w' : World} {base : Nat} {e : TypeId} {size : Nat} {v : Value} {n : Nat} {xs : List Value} (ho : w.ownsRow base e size v n xs) (h : w.grownBy w' (some p)) (hp : p < base) : w'.ownsRow base e size v n xs := by
  obtain ⟨h1, h2 | ⟨g, cap, cur, h3, h4, h5, h6⟩⟩ := ho
  · exact ⟨h1, .inl h2⟩
  · exact ⟨h1, .inr ⟨g, cap, cur, h3, h4, by rw [h.block g (Array.getElem?_eq_some_iff.1 h5).1 (by simp; omega)]; exact h5, h6⟩⟩
def Small (xs : List Int) : Prop := ∀ x ∈ xs, -1 ≤ x ∧ x ≤ 7
theorem Small.wf {xs : List Int} (h : Small xs) : ∀ x ∈ xs, (Lit.int .i64 x).wf = true := fun x hx => WalkArith.wf_i64 (by have := h x hx; omega)
theorem Small.set {xs : List Int} (h : Small xs) (k : Nat) {v : Int} (hv : -1 ≤ v ∧ v ≤ 7) : Small (xs.set k v) := fun x hx => by
  rcases List.mem_or_eq_of_mem_set hx with h1 | rfl
  · exact h x h1
  · exact hv

theorem grown_box2 {w w1 : World} {u v : Value} {t : TypeId} (h : (w.alloc (.cells #[u, v] t)).grownBy w1 none) : w1.cell? ⟨w.heap.size, 0, none⟩ = some u ∧ w1.cell? ⟨w.heap.size, 1, none⟩ = some v ∧ w1.frozen? ⟨w.heap.size, 0, none⟩ = false ∧ w1.frozen? ⟨w.heap.size, 1, none⟩ = false ∧ Below w.heap.size w w1 := by
  have hb : Below (w.heap.size + 1) (w.alloc (.cells #[u, v] t)) w1 := (Below.refl _ _).grown h (by simp) (fun k e => by cases e)
  exact ⟨by rw [hb.cell (by simp)]; simp, by rw [hb.cell (by simp)]; simp, by rw [hb.frozen (by simp)]; simp, by rw [hb.frozen (by simp)]; simp, ((Below.refl _ w).alloc (Nat.le_refl _) _).trans (hb.mono (Nat.le_succ _))⟩
theorem specRowsNew_own (w : World) :
    Calls Tryz.prog 54 #[] w fun e w' => e = .returned (.agg #[.slice (some ⟨w.heap.size + 1, 0, none⟩) 4 4, .int .i64 0]) ∧ w'.ownsRow (w.heap.size + 1) 3 1 (.slice (some ⟨w.heap.size + 1, 0, none⟩) 4 4) 4 (([0, 0, 0, 0] : List Int).map I) ∧ Below w.heap.size w w' := by
  obtain ⟨i0, hi, hz0, hz1, hz2⟩ := info_parts infoInt
  go_enter Tryz.func54, Tryz.ntmps54
  go_wp2_with (first | (at_make; refine wpList_make_full _ rfl _ _ 24 rfl (w.heap.size + 1) 3 i0 (.int .i64 0) 1 Tryz.underlying24 hi hz0 hz1 .i64 .i64 _ _ 4 rfl rfl rfl rfl (by rw [hz2]; omega) (by unfold maxLen; omega) (by simp) ?_; intro w1 own1 grow1; obtain ⟨c0, c1, f0, f1, hb1⟩ := grown_box2 grow1) | fail)
  (try simp only [Exit.inBlock, Exit.then])
  refine bodyPost_ret (by simp [results, Tryz.results54, go_sem, c0, c1]; try rfl) rfl ?_
  rw [show (madeCells (Value.int .i64 0).cells (4 * 1)).toList = (([0, 0, 0, 0] : List Int).map I) from (toList_madeCells_one _ _).trans rfl] at own1
  simp only [World.size_alloc] at own1
  refine ⟨rfl, ownsRow_setCell_below (ownsRow_setCell_below own1 (Nat.lt_succ_self _) _) (Nat.lt_succ_self _) _, (hb1.setCell (Nat.le_refl _) _).setCell (Nat.le_refl _) _⟩

theorem stored_box2 {w : World} {b : Nat} {u0 u1 : Value} (h0 : w.cell? ⟨b, 0, none⟩ = some u0) (h1 : w.cell? ⟨b, 1, none⟩ = some u1) (x y : Value) :
    ((w.setCell ⟨b, 0, none⟩ x).setCell ⟨b, 1, none⟩ y).cell? ⟨b, 0, none⟩ = some x ∧ ((w.setCell ⟨b, 0, none⟩ x).setCell ⟨b, 1, none⟩ y).cell? ⟨b, 1, none⟩ = some y := by
  refine ⟨?_, ?_⟩
  · rw [World.cell?_setCell_other _ _ _ _ (fun e => by cases e), World.cell?_setCell_same _ _ _ h0]
  · refine World.cell?_setCell_same _ _ _ (u := u1) ?_
    rw [World.cell?_setCell_other _ _ _ _ (fun e => by cases e)]
    exact h1
def RBox (w : World) (b : Nat) (a : Option Addr) (n c : Nat) (st : Int) : Prop := w.heap[b]? = some (.cells #[.slice a n c, .int .i64 st] 26)
theorem RBox.facts {w : World} {b n c : Nat} {a : Option Addr} {st : Int} (h : RBox w b a n c st) : w.cell? ⟨b, 0, none⟩ = some (.slice a n c) ∧ w.cell? ⟨b, 1, none⟩ = some (.int .i64 st) ∧ w.frozen? ⟨b, 0, none⟩ = false ∧ w.frozen? ⟨b, 1, none⟩ = false ∧ b < w.heap.size := by
  unfold RBox at h
  exact ⟨by simp [World.cell?, h], by simp [World.cell?, h], by simp [World.frozen?, h], by simp [World.frozen?, h], (Array.getElem?_eq_some_iff.1 h).1⟩
theorem RBox.far {w w' : World} {p b n c : Nat} {a : Option Addr} {st : Int} (h : RBox w b a n c st) (hg : w.grownBy w' (some p)) (hp : b ≠ p) : RBox w' b a n c st := by
  unfold RBox at h ⊢
  rw [hg.block b (Array.getElem?_eq_some_iff.1 h).1 (by simpa using hp)]
  exact h
theorem RBox.set {w : World} {b n c : Nat} {a : Option Addr} {st : Int} (h : RBox w b a n c st) {q : Addr} (hq : b ≠ q.block) (v : Value) : RBox (w.setCell q v) b a n c st := by
  unfold RBox at h ⊢
  rw [Below.heap_setCell _ _ _ _ hq]
  exact h
theorem rbox_new (w : World) (a : Option Addr) (n c : Nat) (st : Int) : RBox (w.alloc (.cells #[.slice a n c, .int .i64 st] 26)) w.heap.size a n c st := by
  show (w.heap.push _)[w.heap.size]? = _
  simp
structure DrawSt (w : World) (p : Nat) (a : Option Addr) (n c g b : Nat) (wr : World) (xs : List Int) (st : Int) : Prop where
  cur : Cur 84 wr p a n c
  far : w.grownBy wr (some p)
  own : wr.ownsRow g 3 1 (.slice (some ⟨g, 0, none⟩) 4 4) 4 (xs.map I)
  small : Small xs
  box : RBox wr b (some ⟨g, 0, none⟩) 4 4 st
  res : RBox wr w.heap.size none 0 0 0
section
variable {w wr wr' : World} {p n c g b : Nat} {a : Option Addr} {xs : List Int} {st : Int}
theorem DrawSt.only (h : DrawSt w p a n c g b wr xs st) (hp : p < w.heap.size) (hg : w.heap.size < g) (hb : g < b) (hC : Cur 84 wr' p a n c) (hO : Only p wr wr') : DrawSt w p a n c g b wr' xs st :=
  ⟨hC, h.far.trans (far_only hO), own_only h.own (far_only hO) (by omega), h.small, h.box.far (far_only hO) (by omega), h.res.far (far_only hO) (by omega)⟩
theorem DrawSt.below (h : DrawSt w p a n c g b wr xs st) (hp : p < w.heap.size) (hg : w.heap.size < g) (hb : g < b) (hB : Below wr.heap.size wr wr') : DrawSt w p a n c g b wr' xs st :=
  ⟨cur_below h.cur hB, far_below_of h.far hB, owns_below h.own hB (Nat.le_refl _), h.small, h.box.far (far_below hB (some p)) (by omega), h.res.far (far_below hB (some p)) (by omega)⟩
theorem DrawSt.store (h : DrawSt w p a n c g b wr xs st) (hp : p < w.heap.size) (hg : w.heap.size < g) (hb : g < b) (k : Nat) {v : Int} (hv : -1 ≤ v ∧ v ≤ 7) : DrawSt w p a n c g b (wr.setCell ⟨g, k, none⟩ (I v)) (xs.set k v) st := by
  refine ⟨cur_set h.cur (show p < g by omega) _, far_set h.far (show w.heap.size ≤ g by omega) _, ?_, h.small.set k hv, h.box.set (show b ≠ g by omega) _, h.res.set (show w.heap.size ≠ g by omega) _⟩
  rw [List.map_set]
  exact (h.own.stored k (I v)).1
theorem DrawSt.at (h : DrawSt w p a n c g b wr xs st) : IntAt wr (some ⟨g, 0, none⟩) 4 xs := own_intAt h.own (by omega)
end
theorem pick5 (x : Nat) (_ : x < 5) : 0 ≤ ([0, 0, 1, 3, 5] : List Int).getD x 0 ∧ ([0, 0, 1, 3, 5] : List Int).getD x 0 ≤ 5 := by
  rcases x with _ | _ | _ | _ | _ | x <;> first | decide | omega

theorem IntAt.far {w w' : World} {p g o m : Nat} {xs : List Int} (h : IntAt w (some ⟨g, o, none⟩) m xs) (hg : w.grownBy w' (some p)) (hp : g ≠ p) : IntAt w' (some ⟨g, o, none⟩) m xs :=
  ⟨h.1, h.2.1, .inr ⟨g, o, rfl, fun i hi => far_cell hg (h.cells i hi) hp⟩⟩
theorem IntAt.two {w : World} {g : Nat} {xs : List Int} (h : IntAt w (some ⟨g, 0, none⟩) 4 xs) : IntAt w (some ⟨g, 0, none⟩) 2 (xs.take 2) := by
  have hl := h.1
  refine ⟨by simp; omega, by omega, .inr ⟨g, 0, rfl, fun i hi => ?_⟩⟩
  have h1 := h.cells i (by omega)
  rw [h1, List.getD_eq_getElem?_getD, List.getD_eq_getElem?_getD, List.getElem?_take_of_lt hi]
theorem Small.take {xs : List Int} (h : Small xs) (k : Nat) : Small (xs.take k) := fun x hx => h x (List.mem_of_mem_take hx)
def RowsDrawn (w w' : World) (v : Value) (xs : List Int) : Prop :=
  ∃ (g m : Nat) (st : Int), v = .agg #[.slice (some ⟨g, 0, none⟩) m 4, .int .i64 st] ∧ w.heap.size < g ∧ (m = 4 ∨ m = 2) ∧ IntAt w' (some ⟨g, 0, none⟩) m xs ∧ Small xs ∧ (-1 ≤ st ∧ st ≤ 6)
theorem IntAt.set_far {w : World} {g o m : Nat} {xs : List Int} (h : IntAt w (some ⟨g, o, none⟩) m xs) {q : Addr} (hq : q.block ≠ g) (v : Value) : IntAt (w.setCell q v) (some ⟨g, o, none⟩) m xs :=
  ⟨h.1, h.2.1, .inr ⟨g, o, rfl, fun i hi => by rw [World.cell?_setCell_far _ _ _ _ hq]; exact h.cells i hi⟩⟩
structure DrawEnd (w : World) (p : Nat) (a : Option Addr) (n c g : Nat) (wr : World) (xs : List Int) : Prop where
  cur : Cur 84 wr p a n c
  far : w.grownBy wr (some p)
  here : IntAt wr (some ⟨g, 0, none⟩) 4 xs
  small : Small xs
  res : RBox wr w.heap.size none 0 0 0
theorem DrawEnd.set {w wr : World} {p n c g : Nat} {a : Option Addr} {xs : List Int} (h : DrawEnd w p a n c g wr xs) (hp : p < w.heap.size) {q : Addr} (hq : q.block ≠ g) (hw : w.heap.size < q.block) (v : Value) : DrawEnd w p a n c g (wr.setCell q v) xs :=
  ⟨cur_set h.cur (by omega) _, far_set h.far (by omega) _, h.here.set_far hq _, h.small, h.res.set (by omega) _⟩
theorem DrawEnd.fin {w wr : World} {p n c g : Nat} {a : Option Addr} {xs : List Int} (h : DrawEnd w p a n c g wr xs) (hp : p < w.heap.size) (hg : w.heap.size < g) (x y : Value) :
    (((wr.setCell ⟨w.heap.size, 0, none⟩ x).setCell ⟨w.heap.size, 1, none⟩ y).cell? ⟨w.heap.size, 0, none⟩ = some x ∧ ((wr.setCell ⟨w.heap.size, 0, none⟩ x).setCell ⟨w.heap.size, 1, none⟩ y).cell? ⟨w.heap.size, 1, none⟩ = some y)
    ∧ IntAt ((wr.setCell ⟨w.heap.size, 0, none⟩ x).setCell ⟨w.heap.size, 1, none⟩ y) (some ⟨g, 0, none⟩) 4 xs ∧ Cur 84 ((wr.setCell ⟨w.heap.size, 0, none⟩ x).setCell ⟨w.heap.size, 1, none⟩ y) p a n c ∧ w.grownBy ((wr.setCell ⟨w.heap.size, 0, none⟩ x).setCell ⟨w.heap.size, 1, none⟩ y) (some p) := by
  obtain ⟨r0, r1, _⟩ := h.res.facts
  exact ⟨stored_box2 r0 r1 x y, (h.here.set_far (show w.heap.size ≠ g by omega) _).set_far (show w.heap.size ≠ g by omega) _, cur_set (cur_set h.cur (show p < w.heap.size from hp) _) (show p < w.heap.size from hp) _, far_set (far_set h.far (Nat.le_refl _) _) (Nat.le_refl _) _⟩
def OBox (w : World) (b : Nat) (kind k v : Int) : Prop := w.heap[b]? = some (.cells #[.int .i64 kind, .int .i64 k, .int .i64 v] 28)
theorem OBox.facts {w : World} {b : Nat} {kind k v : Int} (h : OBox w b kind k v) : w.cell? ⟨b, 0, none⟩ = some (.int .i64 kind) ∧ w.cell? ⟨b, 1, none⟩ = some (.int .i64 k) ∧ w.cell? ⟨b, 2, none⟩ = some (.int .i64 v) ∧ w.frozen? ⟨b, 0, none⟩ = false ∧ w.frozen? ⟨b, 1, none⟩ = false ∧ w.frozen? ⟨b, 2, none⟩ = false ∧ b < w.heap.size := by
  unfold OBox at h
  exact ⟨by simp [World.cell?, h], by simp [World.cell?, h], by simp [World.cell?, h], by simp [World.frozen?, h], by simp [World.frozen?, h], by simp [World.frozen?, h], (Array.getElem?_eq_some_iff.1 h).1⟩
theorem OBox.far {w w' : World} {p b : Nat} {kind k v : Int} (h : OBox w b kind k v) (hg : w.grownBy w' (some p)) (hp : b ≠ p) : OBox w' b kind k v := by
  unfold OBox at h ⊢
  rw [hg.block b (Array.getElem?_eq_some_iff.1 h).1 (by simpa using hp)]
  exact h
theorem OBox.set {w : World} {b : Nat} {kind k v : Int} (h : OBox w b kind k v) {q : Addr} (hq : b ≠ q.block) (u : Value) : OBox (w.setCell q u) b kind k v := by
  unfold OBox at h ⊢
  rw [Below.heap_setCell _ _ _ _ hq]
  exact h
theorem obox_new (w : World) (kind k v : Int) : OBox (w.alloc (.cells #[.int .i64 kind, .int .i64 k, .int .i64 v] 28)) w.heap.size kind k v := by
  show (w.heap.push _)[w.heap.size]? = _
  simp

theorem list_at (w : World) (xs : List Int) (g : Nat) (hg : w.heap.size = g) {cs : Array Value} (hc : cs = (xs.map I).toArray) : ∀ i, i < xs.length → (w.alloc (.cells cs 3)).cell? ⟨g, i, none⟩ = some (.int .i64 (xs.getD i 0)) := by
  intro i hi
  subst hg hc
  simp [World.cell?_alloc_at, List.getD, hi]
theorem OBox.put1 {w : World} {b : Nat} {kind k v : Int} (h : OBox w b kind k v) (x : Int) : OBox (w.setCell ⟨b, 1, none⟩ (.int .i64 x)) b kind x v := by
  unfold OBox at h ⊢
  obtain ⟨hlt, h'⟩ := Array.getElem?_eq_some_iff.1 h
  show (w.heap.modify b _)[b]? = _
  rw [Array.getElem?_eq_getElem (by simpa using hlt), Array.getElem_modify_self, h']
  rfl
theorem OBox.put2 {w : World} {b : Nat} {kind k v : Int} (h : OBox w b kind k v) (x : Int) : OBox (w.setCell ⟨b, 2, none⟩ (.int .i64 x)) b kind k x := by
  unfold OBox at h ⊢
  obtain ⟨hlt, h'⟩ := Array.getElem?_eq_some_iff.1 h
  show (w.heap.modify b _)[b]? = _
  rw [Array.getElem?_eq_getElem (by simpa using hlt), Array.getElem_modify_self, h']
  rfl
theorem OBox.put0 {w : World} {b : Nat} {kind k v : Int} (h : OBox w b kind k v) (x : Int) : OBox (w.setCell ⟨b, 0, none⟩ (.int .i64 x)) b x k v := by
  unfold OBox at h ⊢
  obtain ⟨hlt, h'⟩ := Array.getElem?_eq_some_iff.1 h
  show (w.heap.modify b _)[b]? = _
  rw [Array.getElem?_eq_getElem (by simpa using hlt), Array.getElem_modify_self, h']
  rfl
structure OpSt (w : World) (p : Nat) (a : Option Addr) (n c b : Nat) (wr : World) (kind k v : Int) : Prop where
  cur : Cur 84 wr p a n c
  far : w.grownBy wr (some p)
  box : OBox wr b kind k v
  res : OBox wr w.heap.size 0 0 0
section
variable {w wr wr' : World} {p n c b : Nat} {a : Option Addr} {kind k v : Int}
theorem OpSt.only (h : OpSt w p a n c b wr kind k v) (hp : p < w.heap.size) (hb : w.heap.size < b) (hC : Cur 84 wr' p a n c) (hO : Only p wr wr') : OpSt w p a n c b wr' kind k v :=
  ⟨hC, h.far.trans (far_only hO), h.box.far (far_only hO) (by omega), h.res.far (far_only hO) (by omega)⟩
theorem OpSt.put1 (h : OpSt w p a n c b wr kind k v) (hp : p < w.heap.size) (hb : w.heap.size < b) (x : Int) : OpSt w p a n c b (wr.setCell ⟨b, 1, none⟩ (.int .i64 x)) kind x v :=
  ⟨cur_set h.cur (show p < b by omega) _, far_set h.far (show w.heap.size ≤ b by omega) _, h.box.put1 x, h.res.set (show w.heap.size ≠ b by omega) _⟩
theorem OpSt.put2 (h : OpSt w p a n c b wr kind k v) (hp : p < w.heap.size) (hb : w.heap.size < b) (x : Int) : OpSt w p a n c b (wr.setCell ⟨b, 2, none⟩ (.int .i64 x)) kind k x :=
  ⟨cur_set h.cur (show p < b by omega) _, far_set h.far (show w.heap.size ≤ b by omega) _, h.box.put2 x, h.res.set (show w.heap.size ≠ b by omega) _⟩
theorem OpSt.put0 (h : OpSt w p a n c b wr kind k v) (hp : p < w.heap.size) (hb : w.heap.size < b) (x : Int) : OpSt w p a n c b (wr.setCell ⟨b, 0, none⟩ (.int .i64 x)) x k v :=
  ⟨cur_set h.cur (show p < b by omega) _, far_set h.far (show w.heap.size ≤ b by omega) _, h.box.put0 x, h.res.set (show w.heap.size ≠ b by omega) _⟩
theorem OpSt.fin (h : OpSt w p a n c b wr kind k v) (hp : p < w.heap.size) (k1 k2 k3 : Int) :
    (OBox (((wr.setCell ⟨w.heap.size, 0, none⟩ (.int .i64 k1)).setCell ⟨w.heap.size, 1, none⟩ (.int .i64 k2)).setCell ⟨w.heap.size, 2, none⟩ (.int .i64 k3)) w.heap.size k1 k2 k3)
    ∧ Cur 84 (((wr.setCell ⟨w.heap.size, 0, none⟩ (.int .i64 k1)).setCell ⟨w.heap.size, 1, none⟩ (.int .i64 k2)).setCell ⟨w.heap.size, 2, none⟩ (.int .i64 k3)) p a n c
    ∧ w.grownBy (((wr.setCell ⟨w.heap.size, 0, none⟩ (.int .i64 k1)).setCell ⟨w.heap.size, 1, none⟩ (.int .i64 k2)).setCell ⟨w.heap.size, 2, none⟩ (.int .i64 k3)) (some p) :=
  ⟨((h.res.put0 k1).put1 k2).put2 k3, cur_set (cur_set (cur_set h.cur (show p < w.heap.size from hp) _) (show p < w.heap.size from hp) _) (show p < w.heap.size from hp) _, far_set (far_set (far_set h.far (Nat.le_refl _) _) (Nat.le_refl _) _) (Nat.le_refl _) _⟩
end
theorem l4Key_any (k : Int) (w : World) : Calls Tryz.prog 58 #[.int .i64 k] w fun e w' => e = .returned (.bool (decide (1 ≤ k ∧ k ≤ 4))) ∧ w' = w := by
  rcases tri 1 4 k (by decide) with ⟨h0, h1⟩ | ⟨h0, h1⟩ | ⟨h0, h1⟩
  · rw [show decide (1 ≤ k ∧ k ≤ 4) = true from decide_eq_true ⟨h0, h1⟩]
    go_enter Tryz.func58, Tryz.ntmps58
    go_wp2
    go_ret
    exact ⟨rfl, rfl⟩
  · rw [show decide (1 ≤ k ∧ k ≤ 4) = false from decide_eq_false (fun h => h0 h.1)]
    go_enter Tryz.func58, Tryz.ntmps58
    go_wp2
    go_ret
    exact ⟨rfl, rfl⟩
  · rw [show decide (1 ≤ k ∧ k ≤ 4) = false from decide_eq_false (fun h => h1 h.2)]
    go_enter Tryz.func58, Tryz.ntmps58
    go_wp2
    go_ret
    exact ⟨rfl, rfl⟩
end
section
open Go.ChangeShapes Go.WideShapes Go.ChangeAt Go.RowKit Go.Maps
theorem look_row {H : Type} {w : World} {base b n : Nat} {D : DataW H} {R : Value → Option (DataW H × List MemPlace)} {xs : List Int} (h : w.ownsMap Tryz.prog 3 R b n D) (hR : RowsIn R w base) (hD : HD xs D) (v : Int) (h0 : v ≠ 0) (hw : (Lit.int .i64 v).wf = true) :
    ∃ (p : Option Addr) (l c : Nat), (Instr.lookup 75 (.map (some b)) (.int .i64 v) false).run Tryz.prog w = .ok (.slice p l c) w ∧ ((posK xs 4 v = [] ∧ l = 0) ∨ (posK xs 4 v ≠ [] ∧ w.ownsInts base 3 .i64 (.slice p l c) (posK xs 4 v))) := by
  obtain ⟨es, clock, hb, F, _, rfl⟩ := h
  have hkey : keyOf Tryz.prog 3 (.int .i64 v) = some (.int .i64 v) := keyOf_int_mk Tryz.underlying3 hw
  rcases Maps.fit_look false mapLaw Tryz.underlying75 (zeroInts w) hb F hkey with ⟨hrun, _, hat⟩ | ⟨e0, y, _, _, hrun, hRv, hat, _⟩
  · refine ⟨none, 0, 0, hrun, .inl ⟨?_, rfl⟩⟩
    have h1 := Maps.has_false_of_atKey hat
    rw [(hD v).1] at h1
    have h2 := of_decide_eq_false h1
    by_cases hp : posK xs 4 v = []
    · exact hp
    · exact absurd ⟨h0, hp⟩ h2
  · obtain ⟨_, hp, ho⟩ := step_row hR hD hRv hat
    obtain ⟨⟨p, l, c⟩, e1⟩ := row_slice ho
    rw [e1] at ho hrun
    exact ⟨p, l, c, hrun, .inr ⟨hp, ho⟩⟩

theorem posK_four (xs : List Int) (v : Int) : posK xs 4 v = (if xs.getD 0 0 = v then [0] else []) ++ (if xs.getD 1 0 = v then [1] else []) ++ (if xs.getD 2 0 = v then [2] else []) ++ (if xs.getD 3 0 = v then [3] else []) := by
  have h : ∀ k : Nat, posK xs (k + 1) v = posK xs k v ++ (if xs.getD k 0 = v then [(k : Int)] else []) := fun k => by
    split
    · exact posK_same (by assumption)
    · rw [posK_other (by assumption), List.append_nil]
  rw [h 3, h 2, h 1, h 0, posK_zero]
  rfl
theorem posK_len (xs : List Int) (v : Int) : ((posK xs 4 v).length : Int) = (if xs.getD 0 0 = v then 1 else 0) + (if xs.getD 1 0 = v then 1 else 0) + (if xs.getD 2 0 = v then 1 else 0) + (if xs.getD 3 0 = v then 1 else 0) := by
  rw [posK_four]
  split <;> split <;> split <;> split <;> rfl
theorem posK_le (xs : List Int) (v : Int) : (posK xs 4 v).length ≤ 4 := by
  rw [posK_four]
  split <;> split <;> split <;> split <;> decide
theorem keyN_none {xs : List Int} {v : Int} (h : posK xs 4 v = []) : keyN xs v = -1 := by
  rw [posK_four] at h
  unfold keyN
  split <;> (try split) <;> (try split) <;> (try split) <;> simp_all
theorem keyN_some {xs : List Int} {v : Int} (h : posK xs 4 v ≠ []) : (posK xs 4 v).getD 0 0 = keyN xs v := by
  rw [posK_four] at h ⊢
  unfold keyN
  split <;> (try split) <;> (try split) <;> (try split) <;> simp_all

theorem implKeyOf_four (a : Option Addr) (st v : Int) (xs : List Int) (w : World) (hA : IntAt w a 4 xs) (hi : ∀ x ∈ xs, (Lit.int .i64 x).wf = true) (hv : 1 ≤ v ∧ v ≤ 6) :
    Calls Tryz.prog 84 #[.agg #[.slice a 4 4, .int .i64 st], .int .i64 v] w fun e w' => e = .returned (.int .i64 (keyN xs v)) ∧ Below w.heap.size w w' := by
  have HA : Hid (IntAt w a 4 xs) := hA
  have HI : Hid (∀ x ∈ xs, (Lit.int .i64 x).wf = true) := hi
  obtain ⟨B, hB⟩ : ∃ B, keyN xs v = B := ⟨_, rfl⟩
  rw [hB]
  have HB : Hid (keyN xs v = B) := hB
  clear hA hi hB
  go_enter Tryz.func84, Tryz.ntmps84
  go_wp2_with fail
  refine (holdersOf_four Unit a st xs _ (HA.out.below ((Below.refl _ w).alloc (Nat.le_refl _) _) (Nat.le_refl _)) HI.out).mono ?_
  rintro e w1 ⟨rfl, hb0, R, D, hown, hR, hD⟩
  have hb1 : Below w.heap.size w w1 := ((Below.refl _ w).alloc (Nat.le_refl _) _).trans (hb0.mono (by simp))
  clear hb0
  simp only [World.size_alloc] at hown hR
  obtain ⟨p, l, c, hrun, hc⟩ := look_row hown hR hD v (by omega) (WalkArith.wf_i64 (by omega))
  clear hown hR hD
  rcases hc with ⟨hp, rfl⟩ | ⟨hp, ho⟩
  · have HP : Hid (posK xs 4 v = []) := hp
    clear hp
    go_wp2
    go_ret
    exact ⟨by rw [← HB.out, keyN_none HP.out]; rfl, hb1⟩
  · obtain rfl := row_len ho
    obtain ⟨g, rfl, hg, _⟩ := row_intAt ho hp (posK_le xs v)
    rw [keyN_some hp, HB.out] at hg
    have h4 := posK_le xs v
    have h5 : 0 < (posK xs 4 v).length := List.length_pos_iff.2 hp
    obtain ⟨q, hq⟩ : ∃ q, (posK xs 4 v).length = q := ⟨_, rfl⟩
    rw [hq] at hrun h4 h5
    clear hp ho hq
    by_cases h1 : q = 1
    · subst h1
      go_wp2
      go_ret
      exact ⟨rfl, hb1⟩
    · have h6 : ((q : Int) == 1) = false := by simp; omega
      have h7 : 1 < q := by omega
      go_wp2_with fail
      refine (implValOk_any v _).mono ?_
      rintro e w2 ⟨rfl, rfl⟩
      rw [show decide (1 ≤ v ∧ v ≤ 6) = true from decide_eq_true hv]
      go_wp2
      go_ret
      exact ⟨rfl, hb1⟩

def mkH (left : Lit → Bool) (x : Int) : Int := if left (.int .i64 x) = true then 0 else x
def cntH (xs : List Int) (left : Lit → Bool) (c : Int) : Int := bitW (mkH left (xs.getD 0 0)) c + bitW (mkH left (xs.getD 1 0)) c + bitW (mkH left (xs.getD 2 0)) c + bitW (mkH left (xs.getD 3 0)) c
theorem cntH_le (xs : List Int) (left : Lit → Bool) (c : Int) : 0 ≤ cntH xs left c ∧ cntH xs left c ≤ 4 := by
  unfold cntH
  have h0 := bitW_le (mkH left (xs.getD 0 0)) c
  have h1 := bitW_le (mkH left (xs.getD 1 0)) c
  have h2 := bitW_le (mkH left (xs.getD 2 0)) c
  have h3 := bitW_le (mkH left (xs.getD 3 0)) c
  omega
theorem bitW_mkH {left : Lit → Bool} {x : Int} (y c : Int) (hl : left (.int .i64 x) = true) :
    bitW (mkH (fun z => left z && !z.sameKey (.int .i64 x)) y) c = bitW (mkH left y) c + (if y = x then bitW x c else 0) := by
  unfold mkH
  by_cases h : y = x
  · subst h
    simp [sameKey_int, hl, bitW_zero]
  · simp [sameKey_int, h]
theorem cntH_step {xs : List Int} {left : Lit → Bool} {x : Int} (c : Int) (hl : left (.int .i64 x) = true) :
    cntH xs (fun z => left z && !z.sameKey (.int .i64 x)) c = cntH xs left c + (if bitW x c = 1 then ((posK xs 4 x).length : Int) else 0) := by
  have hb := bitW_le x c
  unfold cntH
  rw [bitW_mkH _ c hl, bitW_mkH _ c hl, bitW_mkH _ c hl, bitW_mkH _ c hl, posK_len]
  by_cases h : bitW x c = 1
  · rw [h, if_pos rfl]
    omega
  · have h0 : bitW x c = 0 := by omega
    rw [h0]
    simp
theorem cntH_none {xs : List Int} {left : Lit → Bool} (c : Int) (h : ∀ i, i < 4 → xs.getD i 0 ≠ 0 → left (.int .i64 (xs.getD i 0)) = true) : cntH xs left c = 0 := by
  have h1 : ∀ i, i < 4 → bitW (mkH left (xs.getD i 0)) c = 0 := fun i hi => by
    unfold mkH
    split
    · exact bitW_zero
    · by_cases h0 : xs.getD i 0 = 0
      · rw [h0]; exact bitW_zero
      · exact absurd (h i hi h0) (by assumption)
  unfold cntH
  rw [h1 0 (by omega), h1 1 (by omega), h1 2 (by omega), h1 3 (by omega)]
  rfl
theorem cntH_all {xs : List Int} {left : Lit → Bool} (c : Int) (h : ∀ z, left z = false) : cntH xs left c = cntK xs c 4 := by
  have h1 : ∀ y, mkH left y = y := fun y => by unfold mkH; rw [h]; rfl
  unfold cntH
  rw [h1, h1, h1, h1, cntK_four]
  rfl

theorem implHowMany_four (a : Option Addr) (st c : Int) (xs : List Int) (w : World) (hA : IntAt w a 4 xs) (hi : ∀ x ∈ xs, (Lit.int .i64 x).wf = true) :
    Calls Tryz.prog 85 #[.agg #[.slice a 4 4, .int .i64 st], .int .i64 c] w fun e w' => e = .returned (.int .i64 (cntK xs c 4)) ∧ Below w.heap.size w w' := by
  have HA : Hid (IntAt w a 4 xs) := hA
  have HI : Hid (∀ x ∈ xs, (Lit.int .i64 x).wf = true) := hi
  clear hA hi
  go_enter Tryz.func85, Tryz.ntmps85
  go_wp2_with fail
  refine (holdersOf_four Unit a st xs _ (HA.out.below ((Below.refl _ w).alloc (Nat.le_refl _) _) (Nat.le_refl _)) HI.out).mono ?_
  rintro e w1 ⟨rfl, hb1, R, D, hown, hR, hD⟩
  have hbw : Below w.heap.size w w1 := ((Below.refl _ w).alloc (Nat.le_refl _) _).trans (hb1.mono (by simp))
  have hsz1 := hown.lt
  simp only [World.size_alloc] at hown hR hsz1
  have HR : Hid (RowsIn R w1 (w.heap.size + 1 + 2)) := hR
  have HD1 : Hid (HD xs D) := hD
  clear hb1 hR hD
  go_wp2_with (first | (at_range; refine wpList_range_own _ rfl _ 75 rfl 3 24 mapLaw Tryz.underlying75 R (w.heap.size + 1 + 1) 4 D rfl hown ?_; intro w2 hrg0 hg0 hs2) | fail)
  go_frame
  have hb2 : Below w1.heap.size w1 w2 := (Below.refl _ _).grown hg0 (Nat.le_refl _) (fun k e => by cases e)
  clear hown hg0
  go_loopw [5] (fun q wr => ∃ left cnt, q = .int .i64 (cntH xs left c) ∧ wr.ranges Tryz.prog 3 R (w.heap.size + 1 + 1) w1.heap.size 4 D left cnt ∧ Below w1.heap.size w1 wr) (fun _ wr => wr.rangeLeft (w.heap.size + 1 + 1) w1.heap.size)
  case atStart =>
    refine ⟨_, _, ?_, hrg0, hb2⟩
    rw [cntH_none c]
    intro i hi h0
    show Maps.has D _ = true
    rw [(HD1.out _).1]
    refine decide_eq_true ⟨h0, ?_⟩
    have hm : ((i : Nat) : Int) ∈ posK xs 4 (xs.getD i 0) := List.mem_map.2 ⟨i, List.mem_filter.2 ⟨List.mem_range.2 hi, by simp⟩, rfl⟩
    exact List.ne_nil_of_mem hm
  case round =>
    obtain ⟨left, cnt, rfl, hrg, hbr⟩ := hrel
    clear hrg0 hb2
    go_wp2_with (first | (at_next; refine wpList_next_rows _ rfl _ rfl R HR.out (w.heap.size + 1 + 1) w1.heap.size 4 D HD1.out left cnt rfl hrg ?_ ?_) | fail)
    · intro _ hl0
      go_wp2
      go_ret
      exact ⟨by rw [cntH_all c hl0]; rfl, hbw.trans (hbr.mono hbw.size)⟩
    · intro x p l c' w3 cnt3 hlx hx0 hpx hrow hrg3 hlt hg3 hs3 hen
      have hb3 : Below w1.heap.size w1 w3 := hbr.grown hg3 hbr.size (fun k e => by cases e; exact Nat.le_refl _)
      have hb03 := hbw.trans (hb3.mono hbw.size)
      obtain rfl := row_len hrow
      have hq := cntH_le xs left c
      have h4 := posK_le xs x
      have hst := cntH_step (xs := xs) c hlx
      obtain ⟨q, hq1⟩ : ∃ q, cntH xs left c = q := ⟨_, rfl⟩
      obtain ⟨m, hm1⟩ : ∃ m, (posK xs 4 x).length = m := ⟨_, rfl⟩
      rw [hq1, hm1] at hst
      rw [hq1] at hq ⊢
      rw [hm1] at h4 hen ⊢
      have HS : Hid (cntH xs (fun z => left z && !z.sameKey (.int .i64 x)) c = q + if bitW x c = 1 then (m : Int) else 0) := hst
      clear hrow hg3 hpx hst hq1 hm1
      go_wp2_with fail
      refine (implValOk_any x _).mono ?_
      rintro e w4 ⟨rfl, rfl⟩
      by_cases hv : 1 ≤ x ∧ x ≤ 6
      · rw [show decide (1 ≤ x ∧ x ≤ 6) = true from decide_eq_true hv]
        go_wp2_with fail
        refine (implClassOf_any x _).mono ?_
        rintro e w5 ⟨rfl, rfl⟩
        rcases eqb (classN x) c with ⟨g0, g1⟩ | ⟨g0, g1⟩
        · have hbit : Hid (bitW x c = 1) := by unfold bitW; exact if_pos ⟨hv, g0⟩
          go_wp2
          refine ⟨⟨_, _, ?_, hrg3, hb3⟩, by rw [hrg3.left_eq, hrg.left_eq]; omega⟩
          rw [HS.out, if_pos hbit.out]
        · have hbit : Hid (bitW x c = 0) := by unfold bitW; exact if_neg (fun h => g0 h.2)
          go_wp2
          refine ⟨⟨_, _, ?_, hrg3, hb3⟩, by rw [hrg3.left_eq, hrg.left_eq]; omega⟩
          rw [HS.out, hbit.out]
          simp
      · rw [show decide (1 ≤ x ∧ x ≤ 6) = false from decide_eq_false hv]
        have hbit : Hid (bitW x c = 0) := by unfold bitW; exact if_neg (fun h => hv h.1)
        go_wp2
        refine ⟨⟨_, _, ?_, hrg3, hb3⟩, by rw [hrg3.left_eq, hrg.left_eq]; omega⟩
        rw [HS.out, hbit.out]
        simp
end
end Go.Proofs.YtenlapppaimkkabGreatDoor
