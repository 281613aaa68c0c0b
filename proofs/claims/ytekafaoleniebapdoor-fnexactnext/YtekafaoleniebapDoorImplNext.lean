/- The program's Next: of every op and every list of pairs the place of the first word that is needed and was not read. -/
import Derived.Test.YtekafaoleniebapDoorWordsC
import Derived.Test.YtekafaoleniebapDoorNextT
import Derived.Test.YtekafaoleniebapDoorImplOp
namespace Go.Proofs.YtekafaoleniebapDoor
open Go.ChangeShapes Go.WideShapes Go.ChangeAt Go.RowKit Go.Shelf
attribute [local go_sem] Oper.semAt_some

/-- What a function value of the program has captured: the pairs and the deed. -/
structure Caught (a : Option Addr) (n c : Nat) (T : TypeId) (kind k v : Int) (Bg Bd : Nat) (W : World) : Prop where
  got : W.cell? ⟨Bg, 0, none⟩ = some (.slice a n c)
  deed : W.cell? ⟨Bd, 0, none⟩ = some (.iface T (OpV kind k v))
theorem words_any (a : Option Addr) (n c : Nat) (F : Value) (wh : Bool) (kind k v : Int) (fs : List Int) (go : Ent → Bool) (ts : List TypeId) (J Jx : List Ent → World → Prop) (W0 W : World)
    (hG : Goes F wh a n c fs go W0 ts J Jx) (hB : Base W0 a n fs) (hW : Below W0.heap.size W0 W) (hJ : J [] W) (hg : OpGood kind k v) :
    Calls Tryd.prog 35 #[.agg #[.slice a n c, F, .bool wh], .iface (deedT kind) (OpV kind k v)] W fun e W' => (∃ v, e = .returned v) ∧ ∃ b, Fin wh go W0.heap.size ts J Jx W (stepsT wh fs n kind k v) [] b W' := by
  have hkk : kind ≤ 3 → 0 ≤ k ∧ k ≤ 3 := fun h => by unfold OpGood KeyGood at hg; omega
  rcases kinds hg.1 with rfl | rfl | rfl | rfl | rfl | rfl | rfl | rfl | rfl | rfl
  · exact words_1 a n c F wh k v fs go ts J Jx W0 W hG hB hW hJ (hkk (by omega))
  · exact words_2 a n c F wh k v fs go ts J Jx W0 W hG hB hW hJ (hkk (by omega))
  · exact words_3 a n c F wh k v fs go ts J Jx W0 W hG hB hW hJ (hkk (by omega))
  · exact words_4 a n c F wh k v fs go ts J Jx W0 W hG hB hW hJ
  · exact words_5 a n c F wh k v fs go ts J Jx W0 W hG hB hW hJ
  · exact words_6 a n c F wh k v fs go ts J Jx W0 W hG hB hW hJ
  · exact words_7 a n c F wh k v fs go ts J Jx W0 W hG hB hW hJ
  · exact words_8 a n c F wh k v fs go ts J Jx W0 W hG hB hW hJ
  · exact words_9 a n c F wh k v fs go ts J Jx W0 W hG hB hW hJ
  · exact words_10 a n c F wh k v fs go ts J Jx W0 W hG hB hW hJ

set_option maxRecDepth 100000 in
set_option maxHeartbeats 2000000 in
theorem needed1_any (a : Option Addr) (n c l Bg Bd : Nat) (kind k v : Int) (fs : List Int) (go : Ent → Bool) (ts : List TypeId) (J Jx : List Ent → World → Prop) (W0 W : World)
    (hG : Goes (.func (.yield l) #[] #[]) false a n c fs go W0 ts J Jx) (hB : Base W0 a n fs) (hW : Below W0.heap.size W0 W) (hJ : J [] W) (hC : Caught a n c (deedT kind) kind k v Bg Bd W) (hg : OpGood kind k v) :
    Calls Tryd.prog 34 #[.func (.yield l) #[] #[], .pointer (some ⟨Bg, 0, none⟩), .pointer (some ⟨Bd, 0, none⟩)] W fun e W' => (∃ v, e = .returned v) ∧ ∃ b, Fin false go W0.heap.size ts J Jx W (stepsT false fs n kind k v) [] b W' := by
  have HG : Hid (Goes (.func (.yield l) #[] #[]) false a n c fs go W0 ts J Jx ∧ Base W0 a n fs ∧ Below W0.heap.size W0 W ∧ J [] W ∧ OpGood kind k v) := ⟨hG, hB, hW, hJ, hg⟩
  obtain ⟨c0, c1⟩ := hC
  clear hG hB hW hJ hg
  go_enter Tryd.func34, Tryd.ntmps34
  go_wp2_with fail
  refine (words_any a n c _ false kind k v fs go ts J Jx W0 W HG.out.1 HG.out.2.1 HG.out.2.2.1 HG.out.2.2.2.1 HG.out.2.2.2.2).mono ?_
  rintro e W' ⟨⟨r, rfl⟩, b, hF⟩
  have HF : Hid (Fin false go W0.heap.size ts J Jx W (stepsT false fs n kind k v) [] b W') := hF
  clear hF
  go_wp2
  go_end0
  exact ⟨⟨_, rfl⟩, b, HF.out⟩
/-- The function value tells the op's words. -/
theorem words_seq (a : Option Addr) (n c Bg Bd : Nat) (kind k v : Int) (fs : List Int) (go : Ent → Bool) (ts : List TypeId) (w : World) (hB : Base w a n fs) (hC : Caught a n c (deedT kind) kind k v Bg Bd w) (hg : OpGood kind k v)
    (ht : ∀ t ∈ [65, 67, 68, 69, 76, 70, 71, 72, 74, 46, 29], t ∉ ts) :
    SeqGo Tryd.prog 34 #[.pointer (some ⟨Bg, 0, none⟩), .pointer (some ⟨Bd, 0, none⟩)] encE go w.heap.size ts (wordsT false (stepsT false fs n kind k v)) w := fun l J Jx W hW hj hx hR h0 => by
  have lg : Bg < w.heap.size := World.block_lt_of_cell? w _ hC.got
  have ld : Bd < w.heap.size := World.block_lt_of_cell? w _ hC.deed
  refine (needed1_any a n c l Bg Bd kind k v fs go ts J Jx w W ⟨fun p x pre X hl hX hJX => becomes_yield a n c l false p x fs go ts J Jx pre w X hR hj hB hl hX hJX, hj, hx, ht⟩ hB hW h0 ⟨(hW.cell (p := ⟨Bg, 0, none⟩) lg).trans hC.got, (hW.cell (p := ⟨Bd, 0, none⟩) ld).trans hC.deed⟩ hg).mono ?_
  rintro e W' ⟨he, b, hF⟩
  exact ⟨he, fun ha => by simpa using fin_all hF ha, fun pre x rest e1 e2 e3 => by simpa using fin_some e3 hF e1 e2⟩

set_option maxHeartbeats 1000000 in
theorem neededOf_any (a : Option Addr) (n c : Nat) (d : Value) (T : TypeId) (x : Value) (hd : d = .iface T x) (w : World) :
    Calls Tryd.prog 14 #[d, .slice a n c] w fun e w' => e = .returned (.func (.func 34) #[] #[.pointer (some ⟨w.heap.size + 1, 0, none⟩), .pointer (some ⟨w.heap.size, 0, none⟩)]) ∧
      w' = (w.alloc (.cells #[d] 46)).alloc (.cells #[.slice a n c] 29) := by
  subst hd
  go_enter Tryd.func14, Tryd.ntmps14
  go_wp2
  go_ret
  exact ⟨rfl, rfl⟩

/-- A struct of three numbers lies in a box. -/
def Box3 (W : World) (B : Nat) (t : TypeId) (x : Ent) : Prop := W.heap[B]? = some (.cells #[.int .i64 x.1, .int .i64 x.2.1, .int .i64 x.2.2] t (0, 0))
theorem Box3.fst {W : World} {B : Nat} {t : TypeId} {x : Ent} (h : Box3 W B t x) : W.cell? ⟨B, 0, none⟩ = some (.int .i64 x.1) := by simp [World.cell?, show W.heap[B]? = _ from h]
theorem box3_own {β : Type} (B : Nat) (t : TypeId) (x : Ent) : Own (fun (_ : β) W => Box3 W B t x) := fun s X Y row hs hg hrow =>
  (hg.block B (Array.getElem?_eq_some_iff.1 hs).1 (fun e' => by obtain ⟨o, ho, hc⟩ := hrow B e'.symm; rw [show X.heap[B]? = _ from hs] at ho; cases ho; cases hc)).trans hs
theorem rd_wf {fs : List Int} {n : Nat} (h : ∀ x ∈ fs, (Lit.int .i64 x).wf = true) (p : Int) : (Lit.int .i64 (rd fs n p)).wf = true := by
  unfold rd
  split
  · decide
  induction n with
  | zero => show (Lit.int .i64 0).wf = true; decide
  | succ n ih =>
    show (Lit.int .i64 (if _ then _ else _ : Int × Bool).1).wf = true
    split
    · show (Lit.int .i64 (fs.getD (n * 2 + 1) 0)).wf = true
      by_cases hl : n * 2 + 1 < fs.length
      · rw [List.getD_eq_getElem?_getD, List.getElem?_eq_getElem hl]; exact h _ (List.getElem_mem hl)
      · rw [List.getD_eq_getElem?_getD, List.getElem?_eq_none (by omega)]; decide
    · exact ih

set_option maxRecDepth 100000 in
set_option maxHeartbeats 4000000 in
theorem implNext_cap (a : Option Addr) (n c : Nat) (kind k v : Int) (fs : List Int) (w : World) (hN : Names w) (hP : PairAt w a n fs) (hx : ∀ x ∈ fs, (Lit.int .i64 x).wf = true) :
    Calls Tryd.prog 8 #[OpV kind k v, .slice a n c] w fun e w' => e = .returned (.int .i64 (nextM fs n kind k v)) ∧ Below w.heap.size w w' := by
  have HB : Hid (Base w a n fs) := ⟨hN, hP⟩
  have HW : Hid (∀ x ∈ fs, (Lit.int .i64 x).wf = true) := hx
  clear hN hP hx
  obtain ⟨res, hres⟩ : ∃ r, nextM fs n kind k v = r := ⟨_, rfl⟩
  have HR : Hid (nextM fs n kind k v = res) := hres
  rw [hres]
  clear hres
  refine (callsIn_wide (n := 3)).1 (callsIn_of_wp_marks Tryd.func8 rfl trivial (wpIn_wide.2 ?_) rfl)
  simp only [Tryd.ntmps8, List.size_toArray, List.length_cons, List.length_nil, Nat.reduceAdd, Nat.reduceSub, Array.replicate_succ, Array.replicate_zero, List.push_toArray, List.append_toArray, List.nil_append, List.cons_append]
  obtain ⟨wa, hwa⟩ : ∃ wa, ((w.alloc (.cells #[.int .i64 kind, .int .i64 k, .int .i64 v] 27)).alloc (.cells #[.slice a n c] 29)).alloc (.cells #[.int .i64 0] 3) = wa := ⟨_, rfl⟩
  have sa : wa.heap.size = w.heap.size + 3 := by rw [← hwa]; simp
  have ba : Below w.heap.size w wa := by rw [← hwa]; exact (((Below.refl _ w).alloc (Nat.le_refl _) _).alloc (by simp) _).alloc (by simp; omega) _
  have x0 : wa.heap[w.heap.size]? = some (.cells #[.int .i64 kind, .int .i64 k, .int .i64 v] 27 (0, 0)) := by
    rw [← hwa]; exact ((Below.heap_alloc _ _ _ (by simp; omega)).trans (Below.heap_alloc _ _ _ (by simp))).trans (World.alloc_heap_new w _)
  have x1 : Boxed wa (w.heap.size + 1) 29 (.slice a n c) := by
    rw [← hwa]; have := Boxed.new (w.alloc (.cells #[.int .i64 kind, .int .i64 k, .int .i64 v] 27)) 29 (.slice a n c); rw [World.size_alloc] at this; exact this.alloc _
  have x2 : Boxed wa (w.heap.size + 1 + 1) 3 (.int .i64 0) := by
    rw [← hwa]; have := Boxed.new ((w.alloc (.cells #[.int .i64 kind, .int .i64 k, .int .i64 v] 27)).alloc (.cells #[.slice a n c] 29)) 3 (.int .i64 0); rw [World.size_alloc, World.size_alloc] at this; exact this
  have HA : Hid (wa.heap.size = w.heap.size + 3 ∧ Below w.heap.size w wa ∧ wa.heap[w.heap.size]? = some (.cells #[.int .i64 kind, .int .i64 k, .int .i64 v] 27 (0, 0)) ∧ Boxed wa (w.heap.size + 1) 29 (.slice a n c) ∧ Boxed wa (w.heap.size + 1 + 1) 3 (.int .i64 0)) := ⟨sa, ba, x0, x1, x2⟩
  have c0 : wa.cell? ⟨w.heap.size, 0, none⟩ = some (.int .i64 kind) := by simp [World.cell?, x0]
  have c1 : wa.cell? ⟨w.heap.size, 1, none⟩ = some (.int .i64 k) := by simp [World.cell?, x0]
  have c2 : wa.cell? ⟨w.heap.size, 2, none⟩ = some (.int .i64 v) := by simp [World.cell?, x0]
  clear sa ba x0 x1 x2
  go_wp2_with fail
  refine (implOpOk_any kind k v _).mono ?_
  rintro e w1 ⟨rfl, hb1⟩
  have hb1' : Below wa.heap.size wa w1 := by first | exact hb1 | exact hwa ▸ hb1
  have HA1 : Hid (w.heap.size + 3 ≤ w1.heap.size ∧ Below w.heap.size w w1 ∧ w1.heap[w.heap.size]? = some (.cells #[.int .i64 kind, .int .i64 k, .int .i64 v] 27 (0, 0)) ∧ Boxed w1 (w.heap.size + 1) 29 (.slice a n c) ∧ Boxed w1 (w.heap.size + 1 + 1) 3 (.int .i64 0)) := by
    obtain ⟨g1, g2, g3, g4, g5⟩ := HA.out
    exact ⟨by have := hb1'.size; omega, g2.trans (hb1'.mono (by omega)), (hb1'.block _ (by omega)).trans g3, (hb1'.block _ (by omega)).trans g4, (hb1'.block _ (by omega)).trans g5⟩
  clear hb1 hb1' c0 c1 c2
  have r2 := HA1.out.2.2.2.2.cell
  have f2 := HA1.out.2.2.2.2.frozen
  by_cases hg : OpGood kind k v
  case neg =>
    rw [decide_eq_false hg]
    have HZ : Hid (res = -1) := by rw [← HR.out]; unfold nextM; exact if_neg hg
    clear hg
    go_wp2
    have g2 := (HA1.out.2.2.2.2.set (.int .i64 (-1))).cell
    refine ⟨.int .i64 (-1), by simp [results, Tryd.f8, go_sem, g2], by rw [HZ.out], HA1.out.2.1.setCell (p := ⟨w.heap.size + 1 + 1, 0, none⟩) (by simp; omega) _⟩
  rw [decide_eq_true hg]
  have HG : Hid (OpGood kind k v) := hg
  clear hg
  obtain ⟨wd, hwd⟩ : ∃ wd, w1.drew = wd := ⟨_, rfl⟩
  have HD : Hid (w.heap.size + 3 ≤ wd.heap.size ∧ Below w.heap.size w wd ∧ wd.heap[w.heap.size]? = some (.cells #[.int .i64 kind, .int .i64 k, .int .i64 v] 27 (0, 0)) ∧ Boxed wd (w.heap.size + 1) 29 (.slice a n c) ∧ Boxed wd (w.heap.size + 1 + 1) 3 (.int .i64 0)) := by
    rw [← hwd]; obtain ⟨g1, g2, g3, g4, g5⟩ := HA1.out; exact ⟨g1, g2.drew, g3, g4, g5⟩
  have boxS : ∀ {w' : World}, w'.heap[w.heap.size]? = some (.cells #[.int .i64 kind, .int .i64 k, .int .i64 v] 27 (0, 0)) → Boxed w' (w.heap.size + 1) 29 (.slice a n c) →
      (w'.cell? ⟨w.heap.size, 0, none⟩ = some (.int .i64 kind) ∧ w'.cell? ⟨w.heap.size, 1, none⟩ = some (.int .i64 k) ∧ w'.cell? ⟨w.heap.size, 2, none⟩ = some (.int .i64 v) ∧ w'.cell? ⟨w.heap.size + 1, 0, none⟩ = some (.slice a n c)) :=
    fun h h' => ⟨by simp [World.cell?, h], by simp [World.cell?, h], by simp [World.cell?, h], h'.cell⟩
  have K0 : Hid _ := boxS HD.out.2.2.1 HD.out.2.2.2.1
  clear r2 f2
  go_wp2_with fail
  go_region_held3 (fun w' => w'.cell? ⟨w.heap.size, 0, none⟩ = some (.int .i64 kind) ∧ w'.cell? ⟨w.heap.size, 1, none⟩ = some (.int .i64 k) ∧ w'.cell? ⟨w.heap.size, 2, none⟩ = some (.int .i64 v) ∧ w'.cell? ⟨w.heap.size + 1, 0, none⟩ = some (.slice a n c))
    (first | (with_reducible exact K3.out) | (with_reducible exact K2.out) | (with_reducible exact K0.out) | exact hwd ▸ K0.out | go_keep)
    (first
    | (go_at_call 15
       refine (implDeedOf_any kind k v _).mono ?_
       rintro e w2 ⟨rfl, hb2⟩
       have hb2' : Below wd.heap.size wd w2 := by first | exact hb2 | exact hwd ▸ hb2
       have HD2 : Hid (w.heap.size + 3 ≤ w2.heap.size ∧ Below w.heap.size w w2 ∧ w2.heap[w.heap.size]? = some (.cells #[.int .i64 kind, .int .i64 k, .int .i64 v] 27 (0, 0)) ∧ Boxed w2 (w.heap.size + 1) 29 (.slice a n c) ∧ Boxed w2 (w.heap.size + 1 + 1) 3 (.int .i64 0)) := by
         obtain ⟨g1, g2, g3, g4, g5⟩ := HD.out
         exact ⟨Nat.le_trans g1 hb2'.size, g2.trans (hb2'.mono (by omega)), (hb2'.block _ (by omega)).trans g3, (hb2'.block _ (by omega)).trans g4, (hb2'.block _ (by omega)).trans g5⟩
       have K2 : Hid (w2.cell? ⟨w.heap.size, 0, none⟩ = some (.int .i64 kind) ∧ w2.cell? ⟨w.heap.size, 1, none⟩ = some (.int .i64 k) ∧ w2.cell? ⟨w.heap.size, 2, none⟩ = some (.int .i64 v) ∧ w2.cell? ⟨w.heap.size + 1, 0, none⟩ = some (.slice a n c)) := boxS HD2.out.2.2.1 HD2.out.2.2.2.1
       clear hb2 hb2')
    | (go_at_call 14
       refine (neededOf_any a n c (DeedV kind k v) (deedT kind) _ rfl _).mono ?_
       rintro e w3 ⟨rfl, hw3⟩
       have HW3 : Hid (w3 = (w2.alloc (.cells #[DeedV kind k v] 46)).alloc (.cells #[.slice a n c] 29)) := hw3
       have hb3 : Below w2.heap.size w2 w3 := by rw [hw3]; exact ((Below.refl _ _).alloc (Nat.le_refl _) _).alloc (by simp) _
       have HD3 : Hid (w.heap.size + 3 ≤ w3.heap.size ∧ Below w.heap.size w w3 ∧ w3.heap[w.heap.size]? = some (.cells #[.int .i64 kind, .int .i64 k, .int .i64 v] 27 (0, 0)) ∧ Boxed w3 (w.heap.size + 1) 29 (.slice a n c) ∧ Boxed w3 (w.heap.size + 1 + 1) 3 (.int .i64 0)) := by
         obtain ⟨g1, g2, g3, g4, g5⟩ := HD2.out
         exact ⟨Nat.le_trans g1 hb3.size, g2.trans (hb3.mono (by omega)), (hb3.block _ (by omega)).trans g3, (hb3.block _ (by omega)).trans g4, (hb3.block _ (by omega)).trans g5⟩
       have K3 : Hid (w3.cell? ⟨w.heap.size, 0, none⟩ = some (.int .i64 kind) ∧ w3.cell? ⟨w.heap.size, 1, none⟩ = some (.int .i64 k) ∧ w3.cell? ⟨w.heap.size, 2, none⟩ = some (.int .i64 v) ∧ w3.cell? ⟨w.heap.size + 1, 0, none⟩ = some (.slice a n c)) := boxS HD3.out.2.2.1 HD3.out.2.2.2.1
       clear hw3 hb3))
  go_wp2_with fail
  have HSQ : Hid (SeqGo Tryd.prog 34 #[.pointer (some ⟨w2.heap.size + 1, 0, none⟩), .pointer (some ⟨w2.heap.size, 0, none⟩)] encE (goR fs n) w3.heap.size [3] (wordsT false (stepsT false fs n kind k v)) w3) :=
    words_seq a n c (w2.heap.size + 1) w2.heap.size kind k v fs (goR fs n) [3] w3 (HB.out.on HD3.out.2.1) ⟨by rw [HW3.out]; have := Boxed.new (w2.alloc (.cells #[DeedV kind k v] 46)) 29 (.slice a n c); rw [World.size_alloc] at this; exact this.cell,
      by rw [HW3.out]; exact ((Boxed.new w2 46 (DeedV kind k v)).alloc _).cell⟩ HG.out (by decide)
  refine wp_rangeFunc_go (gf := 34) (lb := #[.pointer (some ⟨w2.heap.size + 1, 0, none⟩), .pointer (some ⟨w2.heap.size, 0, none⟩)]) rfl (enters_of Tryd.func34 (by kernel_rfl) rfl) HSQ.out (Nat.le_refl _) (fun _ => rfl)
    (fun pre W => (Boxed W (w.heap.size + 1) 29 (.slice a n c) ∧ Boxed W (w.heap.size + 1 + 1) 3 (.int .i64 0)) ∧ Below w.heap.size w W)
    (fun pre W => (∃ q x, pre = q ++ [x] ∧ Boxed W (w.heap.size + 1 + 1) 3 (.int .i64 x.1)) ∧ Below w.heap.size w W)
    (OwnFrom.and (Own.from (fun s A B row hs hg hr => ⟨boxed_own _ _ (fun _ => _) () A B row hs.1 hg hr, boxed_own _ _ (fun _ => _) () A B row hs.2 hg hr⟩) _) (ownFrom_below (Nat.le_refl _) HD3.out.2.1.size))
    (OwnFrom.and (Own.from (fun s A B row ⟨q, x, h1, h2⟩ hg hr => ⟨q, x, h1, boxed_own _ _ (fun _ => _) () A B row h2 hg hr⟩) _) (ownFrom_below (Nat.le_refl _) HD3.out.2.1.size))
    ⟨⟨HD3.out.2.2.2.1, HD3.out.2.2.2.2⟩, HD3.out.2.1⟩
    (fun x a' W => ∃ Bx, w.heap.size + 1 + 1 < Bx ∧ Box3 W Bx 49 x ∧ a' = { tmps := #[OpV kind k v, .slice a n c, .pointer (some ⟨w.heap.size, 0, none⟩), .pointer (some ⟨w.heap.size + 1, 0, none⟩), .pointer (some ⟨w.heap.size + 1 + 1, 0, none⟩), .pointer (some ⟨Bx, 0, none⟩), undef, undef, OpV kind k v, .bool true, .bool false, OpV kind k v, DeedV kind k v, .slice a n c, .func (.func 34) #[] #[.pointer (some ⟨w2.heap.size + 1, 0, none⟩), .pointer (some ⟨w2.heap.size, 0, none⟩)], .agg #[.int .i64 x.1, .int .i64 x.2.1, .int .i64 x.2.2], undef, undef, undef, undef, undef, undef, undef, undef, undef, undef, undef], defers := [] })
    (fun x a' => Own.from (fun s A B row ⟨Bx, h1, h2, h3⟩ hg hr => ⟨Bx, h1, box3_own _ _ _ () A B row h2 hg hr, h3⟩) _) ?assign ?body ?done ?stop
  case assign =>
    rintro l pre x W K hsz _ ⟨⟨b1, b2⟩, hB⟩ hK
    simp only [encE]
    gi_wp2
    exact hK _ _ (World.grownBy_alloc W _ none) ⟨⟨b1.alloc _, b2.alloc _⟩, hB.alloc hB.size _⟩ ⟨W.heap.size, b2.lt, World.alloc_heap_new W _, rfl⟩
  case body =>
    rintro l pre x a' W hsz _ ⟨⟨b1, b2⟩, hB⟩ ⟨Bx, hBx, bX, rfl⟩
    have HI : Hid ((Boxed W (w.heap.size + 1) 29 (.slice a n c) ∧ Boxed W (w.heap.size + 1 + 1) 3 (.int .i64 0)) ∧ Below w.heap.size w W) := ⟨⟨b1, b2⟩, hB⟩
    have HBX : Hid (Box3 W Bx 49 x) := bX
    have HSZ : Hid (w3.heap.size + 1 < W.heap.size ∧ w.heap.size + 1 + 1 < Bx) := ⟨hsz, hBx⟩
    have e1 := b1.cell
    have xx := bX.fst
    clear b1 b2 hB bX hsz hBx
    obtain ⟨⟨r1, r2⟩, hr⟩ : ∃ r, readF fs x.1 n = r := ⟨_, rfl⟩
    have HRD : Hid (readF fs x.1 n = (r1, r2)) := hr
    clear hr
    cases r2 with
    | true =>
      gi_wp2_with (refine ⟨trivial, ?_⟩; gi_at_call 16; refine (CallsIn.inRound l (callsIn_wide.2 (implRead_any a n c x.1 fs _ (HB.out.on HI.out.2).pairs))).mono ?_; rintro e w5 ⟨rfl, hb5⟩; rw [HRD.out]; have HB5 : Hid (Below W.heap.size W w5) := hb5; have y5 := (hb5.cell (p := ⟨Bx, 0, none⟩) (Array.getElem?_eq_some_iff.1 HBX.out).1).trans xx; have q5 := (show Boxed w5 (w.heap.size + 1 + 1) 3 (.int .i64 0) from (hb5.block _ HI.out.1.2.lt).trans HI.out.1.2).cell; have q6 := (show Boxed w5 (w.heap.size + 1 + 1) 3 (.int .i64 0) from (hb5.block _ HI.out.1.2.lt).trans HI.out.1.2).frozen; clear hb5)
      have hb := HB5.out
      refine ⟨⟨hb.block _ (by have := HSZ.out.1; omega), hb.block _ HSZ.out.1⟩, by unfold goR; rw [HRD.out], Kp.of_below hb (by have := HSZ.out.1; omega), ⟨(hb.block _ HI.out.1.1.lt).trans HI.out.1.1, (hb.block _ HI.out.1.2.lt).trans HI.out.1.2⟩, HI.out.2.trans (hb.mono HI.out.2.size)⟩
    | false =>
      gi_wp2_with (refine ⟨trivial, ?_⟩; gi_at_call 16; refine (CallsIn.inRound l (callsIn_wide.2 (implRead_any a n c x.1 fs _ (HB.out.on HI.out.2).pairs))).mono ?_; rintro e w5 ⟨rfl, hb5⟩; rw [HRD.out]; have HB5 : Hid (Below W.heap.size W w5) := hb5; have y5 := (hb5.cell (p := ⟨Bx, 0, none⟩) (Array.getElem?_eq_some_iff.1 HBX.out).1).trans xx; have q5 := (show Boxed w5 (w.heap.size + 1 + 1) 3 (.int .i64 0) from (hb5.block _ HI.out.1.2.lt).trans HI.out.1.2).cell; have q6 := (show Boxed w5 (w.heap.size + 1 + 1) 3 (.int .i64 0) from (hb5.block _ HI.out.1.2.lt).trans HI.out.1.2).frozen; clear hb5)
      have hb := HB5.out
      have b5 : Boxed w5 (w.heap.size + 1 + 1) 3 (.int .i64 0) := (hb.block _ HI.out.1.2.lt).trans HI.out.1.2
      have h3 := HD3.out.1
      have hs := grownBy_setCell' w5 (w.heap.size + 1 + 1) (.int .i64 x.1)
      have hz := HSZ.out.1
      have hzb := hb.size
      refine ⟨⟨(hs.block _ (by omega) (by simp; omega)).trans (hb.block _ (by omega)), (hs.block _ (by omega) (by simp; omega)).trans (hb.block _ hz)⟩, by unfold goR; rw [HRD.out], ⟨Nat.le_trans hzb hs.size, fun k' cs t r hk ht => ?_⟩, ⟨pre, x.1, ⟨rfl, x.2.1, x.2.2, rfl⟩, b5.set _⟩, (HI.out.2.trans (hb.mono HI.out.2.size)).setCell (p := ⟨w.heap.size + 1 + 1, 0, none⟩) (by simp; omega) _⟩
      have hne : k' ≠ w.heap.size + 1 + 1 := fun e => by
        rw [e, show W.heap[w.heap.size + 1 + 1]? = _ from HI.out.1.2] at hk
        cases hk
        exact ht (by simp)
      have hkl := (Array.getElem?_eq_some_iff.1 hk).1
      exact (hs.block k' (by omega) (by simpa using hne)).trans ((hb.block _ (Array.getElem?_eq_some_iff.1 hk).1).trans hk)
  case done =>
    rintro W hall ⟨⟨b1, b2⟩, hB⟩ hK
    have HI : Hid (Boxed W (w.heap.size + 1 + 1) 3 (.int .i64 0) ∧ Below w.heap.size w W ∧ W.heap[w3.heap.size]? = some (.deferred (some []))) := ⟨b2, hB, hK⟩
    have HZ : Hid (res = -1) := by rw [← HR.out, next_words fs n kind k v (rd_wf HW.out 13) HG.out]; exact firstR_all hall
    have r2 := b2.cell
    have f2 := b2.frozen
    clear b1 b2 hB hK hall
    go_wp2
    have hK' := (KeepsOthers.setCell W ⟨w.heap.size + 1 + 1, 0, none⟩ (.int .i64 (-1))).same w3.heap.size _ HI.out.2.2 rfl
    refine ⟨by simp, .inl ⟨_, _, rfl, run_takeDeferred hK', ?_⟩⟩
    have i1 := cell_kept (HI.out.1.set (.int .i64 (-1))).cell (grownBy_putObj' _ w3.heap.size (.deferred none)) (fun r e => by cases e; exact ⟨_, hK', rfl⟩)
    refine ⟨.int .i64 (-1), by simp [results, Tryd.f8, go_sem, i1], by rw [HZ.out], (HI.out.2.1.setCell (p := ⟨w.heap.size + 1 + 1, 0, none⟩) (by simp; omega) _).trans (belowK_b (w := w) (Nat.le_refl _) _ w3.heap.size _ _ (by have := HD3.out.1; omega) hK' rfl rfl)⟩
  case stop =>
    rintro pre x rest W e1 e2 e3 ⟨⟨q, y, hq, b2⟩, hB⟩ hK
    obtain ⟨hq1, hq2⟩ := List.append_inj' hq rfl
    obtain rfl := (List.cons.inj hq2).1
    have HI : Hid (Boxed W (w.heap.size + 1 + 1) 3 (.int .i64 x.1) ∧ Below w.heap.size w W ∧ W.heap[w3.heap.size]? = some (.deferred (some []))) := ⟨b2, hB, hK⟩
    have HZ : Hid (res = x.1) := by rw [← HR.out, next_words fs n kind k v (rd_wf HW.out 13) HG.out]; exact firstR_some e3 e1 e2
    clear b2 hB hK hq hq1 hq2 e1 e2 e3
    go_wp2
    have hK' := HI.out.2.2
    refine ⟨by simp, .inl ⟨_, _, rfl, run_takeDeferred hK', ?_⟩⟩
    have i1 := cell_kept HI.out.1.cell (grownBy_putObj' _ w3.heap.size (.deferred none)) (fun r e => by cases e; exact ⟨_, hK', rfl⟩)
    refine ⟨.int .i64 x.1, by simp [results, Tryd.f8, go_sem, i1], by rw [HZ.out], HI.out.2.1.trans (belowK_b (w := w) (Nat.le_refl _) _ w3.heap.size _ _ (by have := HD3.out.1; omega) hK' rfl rfl)⟩

theorem implNext_any (p n : Nat) (kind k v : Int) (fs : List Int) (w : World) (hN : Names w) (hP : PairAt w (some ⟨p, 0, none⟩) n fs) (hx : ∀ x ∈ fs, (Lit.int .i64 x).wf = true) (_ : (Lit.int .i64 kind).wf = true) (_ : (Lit.int .i64 k).wf = true) (_ : (Lit.int .i64 v).wf = true) :
    Calls Tryd.prog 8 #[OpV kind k v, .slice (some ⟨p, 0, none⟩) n n] w fun e w' => e = .returned (.int .i64 (nextM fs n kind k v)) ∧ Below w.heap.size w w' := implNext_cap _ n n kind k v fs w hN hP hx
end Go.Proofs.YtekafaoleniebapDoor
