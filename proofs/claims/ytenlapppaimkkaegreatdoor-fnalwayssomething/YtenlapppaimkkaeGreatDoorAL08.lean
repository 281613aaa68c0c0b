/- Texts joined: ReadSeq, SpecAdd, SpecAdd2, FlatE, CollectE, SortLay, SortE, SortedE. -/
import Derived.Test.YtenlapppaimkkaeGreatDoorAL07
import Derived.Test.YtenlapppaimkkaeGreatDoorAL01
import Derived.Laws.AppendOwnNone
import Derived.Handy
import Derived.LoopN
import Derived.Test.YtenlapppaimkkaeGreatDoorAL02
import Derived.Shelf.SlSortCmp.SmallK
import Derived.Shelf.SlicesG.Cmp
import Derived.Shelf.Small.Bits
import Derived.Ground.SlsfProg
import Derived.Ground.SlgcProg
import Derived.Ground.NamesProg
import Derived.Test.YtenlapppaimkkaeGreatDoorProg
import Derived.Shelf.Abstract
/- The program's readOf as a sequence: the words of an op that were read, one behind the other. -/
namespace Go.Proofs.YtenlapppaimkkaeGreatDoor
open Go.ChangeShapes Go.WideShapes Go.ChangeAt Go.RowKit Go.Shelf

/-- The function literal that passes on what was read. -/
abbrev trF (Bg Bt : Nat) : Value := .func (.func 65) #[] #[.pointer (some ⟨Bg, 0, none⟩), .pointer (some ⟨Bt, 0, none⟩)]
/-- What has come, of what was told; and where it is told to. -/
def Passed (fs : List Int) (n l Bt : Nat) (J : List Ent → World → Prop) (pre : List Ent) (X : World) : Prop := J (pre.filter (goR fs n)) X ∧ Boxed X Bt 106 (.func (.yield l) #[] #[])
theorem passed_grows {fs : List Int} {n l Bt : Nat} {J : List Ent → World → Prop} (h : Grows J) : Grows (Passed fs n l Bt J) := fun s W W' hs hg => ⟨h _ _ _ hs.1 hg, hs.2.kept hg (by simp)⟩

set_option maxRecDepth 100000 in
set_option maxHeartbeats 2000000 in
theorem becomes_read (a : Option Addr) (n c l Bg Bt : Nat) (p v : Int) (fs : List Int) (ts : List TypeId) (J Jx : List Ent → World → Prop) (pre : List Ent) (W0 X : World)
    (hR : Rounds Tryz.prog l encE (fun _ => true) W0.heap.size ts J Jx) (hj : Grows J) (hB : Base W0 a n fs) (hbg : W0.cell? ⟨Bg, 0, none⟩ = some (.slice a n c)) (ht : 106 ∉ ts) (htt : 108 ∉ ts)
    (hl : pre.length < 100) (hX : Below W0.heap.size W0 X) (hJ : Passed fs n l Bt J pre X) :
    Calls Tryz.prog 117 #[.agg #[.slice a n c, trF Bg Bt, .bool true], .int .i64 p, .int .i64 v] X fun e X' => ∃ b, e = .returned (.bool b) ∧ Fin true (fun _ => true) W0.heap.size ts (Passed fs n l Bt J) (Passed fs n l Bt Jx) X [becS fs n p v] pre b X' := by
  by_cases hp : p < 0
  · exact becomes_none a n c _ true p v fs _ ts (Passed fs n l Bt J) (Passed fs n l Bt Jx) pre W0 X (passed_grows hj) hX hJ hp
  have HG : Hid (Rounds Tryz.prog l encE (fun _ => true) W0.heap.size ts J Jx ∧ Grows J ∧ Base W0 a n fs ∧ 106 ∉ ts ∧ 108 ∉ ts) := ⟨hR, hj, hB, ht, htt⟩
  have HP : Hid (0 ≤ p) := Int.not_lt.1 hp
  have HL : Hid ((pre.filter (goR fs n)).length < 100) := Nat.lt_of_le_of_lt (List.length_filter_le _ _) hl
  clear hl
  obtain ⟨Xd, hXd⟩ : ∃ Xd, (X.alloc (.cells #[.slice a n c, trF Bg Bt, .bool true] 108)).drew = Xd := ⟨_, rfl⟩
  have hx : Below X.heap.size X Xd := by rw [← hXd]; exact ((Below.refl _ _).alloc (Nat.le_refl _) _).drew
  have bx : Xd.heap[X.heap.size]? = some (tellCells a n c (trF Bg Bt) true) := by rw [← hXd]; exact World.alloc_heap_new X _
  have HX : Hid (Below X.heap.size X Xd ∧ Xd.heap[X.heap.size]? = some (tellCells a n c (trF Bg Bt) true) ∧ Below W0.heap.size W0 X ∧ Passed fs n l Bt J pre X ∧ W0.cell? ⟨Bg, 0, none⟩ = some (.slice a n c)) := ⟨hx, bx, hX, hJ, hbg⟩
  have K0 : Hid (TBox a n c (trF Bg Bt) true X.heap.size Xd) := tbox_of bx
  clear hR hj hB ht htt hx bx hX hJ hbg
  go_enter Tryz.func117, Tryz.ntmps117
  go_wp2_with fail
  go_region_held3 (fun w' => w'.cell? ⟨X.heap.size, 0, none⟩ = some (.slice a n c) ∧ w'.cell? ⟨X.heap.size, 1, none⟩ = some (trF Bg Bt) ∧ w'.cell? ⟨X.heap.size, 2, none⟩ = some (.bool true))
    (first | (with_reducible exact K2.out) | (with_reducible exact K1.out) | (with_reducible exact K0.out) | exact hXd ▸ K0.out | go_keep)
    (first
    | (go_at_call 58
       refine (knownAt_any a n c p fs _ (by first | exact (HG.out.2.2.1.on (HX.out.2.2.1.trans (HX.out.1.mono HX.out.2.2.1.size))).pairs | exact hXd ▸ (HG.out.2.2.1.on (HX.out.2.2.1.trans (HX.out.1.mono HX.out.2.2.1.size))).pairs)).mono ?_
       rintro e w1 ⟨rfl, hb1⟩
       have hb1' : Below Xd.heap.size Xd w1 := by first | exact hb1 | exact hXd ▸ hb1
       have HB1 : Hid (Below X.heap.size X w1) := HX.out.1.trans (hb1'.mono HX.out.1.size)
       have K1h : Hid (w1.heap[X.heap.size]? = some (tellCells a n c (trF Bg Bt) true)) := (hb1'.block _ (Array.getElem?_eq_some_iff.1 HX.out.2.1).1).trans HX.out.2.1
       have K1 : Hid (TBox a n c (trF Bg Bt) true X.heap.size w1) := tbox_of K1h.out
       have HW1 : Hid (Below W0.heap.size W0 w1 ∧ Passed fs n l Bt J pre w1) := ⟨HX.out.2.2.1.trans (HB1.out.mono HX.out.2.2.1.size), passed_grows HG.out.2.1 _ _ _ HX.out.2.2.2.1 (far_below HB1.out none)⟩
       clear hb1 hb1')
    | (go_at_call 65
       refine (tellRead_any a n c l Bg Bt (p, rd fs n p, v) fs (fun _ => true) ts J Jx (pre.filter (goR fs n)) W0 _ HG.out.1 HG.out.2.1 HG.out.2.2.1 HL.out HW1.out.1 HW1.out.2.1 ((HW1.out.1.cell (p := ⟨Bg, 0, none⟩) (World.block_lt_of_cell? W0 _ HX.out.2.2.2.2)).trans HX.out.2.2.2.2) HW1.out.2.2.cell).mono ?_
       rintro e w2 ⟨b, rfl, hF⟩
       have HF : Hid (TellSays fs n (fun _ => true) W0.heap.size ts J Jx w1 (pre.filter (goR fs n)) (p, rd fs n p, v) b w2) := hF
       have K2 : Hid (TBox a n c (trF Bg Bt) true X.heap.size w2) := by
         cases hg : goR fs n (p, rd fs n p, v) with
         | false => exact tbox_of (((hF.1 hg).2.block _ (Array.getElem?_eq_some_iff.1 K1h.out).1).trans K1h.out)
         | true => exact tbox_of (((hF.2 hg).2.1 rfl).2.cells K1h.out HG.out.2.2.2.2)
       clear hF))
  go_wp2
  go_ret
  refine ⟨b, rfl, ?_⟩
  unfold becS Fin
  rw [if_pos HP.out, if_pos rfl]
  unfold Fin Passed
  rw [List.filter_append]
  cases hg : goR fs n (p, rd fs n p, v) with
  | false =>
    have h := HF.out.1 hg
    refine ⟨h.1, ⟨?_, (h.2.block _ HW1.out.2.2.lt).trans HW1.out.2.2⟩, (Kp.of_below HB1.out HX.out.2.2.1.size).trans (Kp.of_below h.2 HW1.out.1.size)⟩
    rw [List.filter_cons_of_neg (by rw [hg]; simp), List.filter_nil, List.append_nil]
    exact HG.out.2.1 _ _ _ HW1.out.2.1 (far_below h.2 none)
  | true =>
    have h := HF.out.2 hg
    refine ⟨h.1, ⟨?_, (h.2.1 rfl).2.cells HW1.out.2.2 HG.out.2.2.2.1⟩, (Kp.of_below HB1.out HX.out.2.2.1.size).trans (h.2.1 rfl).2⟩
    rw [List.filter_cons_of_pos hg, List.filter_nil]
    exact (h.2.1 rfl).1

set_option maxRecDepth 100000 in
set_option maxHeartbeats 2000000 in
theorem read1_any (a : Option Addr) (n c l Bg Bd : Nat) (kind k v : Int) (fs : List Int) (ts : List TypeId) (J Jx : List Ent → World → Prop) (W0 W : World)
    (hR : Rounds Tryz.prog l encE (fun _ => true) W0.heap.size ts J Jx) (hj : Grows J) (hx : Grows Jx) (hB : Base W0 a n fs) (hC : Caught a n c (deedT kind) kind k v Bg Bd W0) (hW : Below W0.heap.size W0 W) (hJ : J [] W) (hg : OpGood kind k v)
    (ht : ∀ t ∈ [108, 91, 92, 93, 100, 94, 95, 96, 98, 53, 29], t ∉ ts) (hf : 106 ∉ ts) :
    Calls Tryz.prog 64 #[.func (.yield l) #[] #[], .pointer (some ⟨Bg, 0, none⟩), .pointer (some ⟨Bd, 0, none⟩)] W fun e W' => (∃ v, e = .returned v) ∧ J ((wordsT true (stepsT true fs n kind k v)).filter (goR fs n)) W' := by
  have lg : Bg < W0.heap.size := World.block_lt_of_cell? W0 _ hC.got
  have ld : Bd < W0.heap.size := World.block_lt_of_cell? W0 _ hC.deed
  have hb : Below W.heap.size W (W.alloc (.cells #[.func (.yield l) #[] #[]] 106)) := (Below.refl _ _).alloc (Nat.le_refl _) _
  have hb0 : Below W0.heap.size W0 (W.alloc (.cells #[.func (.yield l) #[] #[]] 106)) := hW.trans (hb.mono hW.size)
  have c0 : (W.alloc (.cells #[.func (.yield l) #[] #[]] 106)).cell? ⟨Bg, 0, none⟩ = some (.slice a n c) := (hb0.cell (p := ⟨Bg, 0, none⟩) lg).trans hC.got
  have c1 : (W.alloc (.cells #[.func (.yield l) #[] #[]] 106)).cell? ⟨Bd, 0, none⟩ = some (.iface (deedT kind) (OpV kind k v)) := (hb0.cell (p := ⟨Bd, 0, none⟩) ld).trans hC.deed
  have HJ : Hid (Passed fs n l W.heap.size J [] (W.alloc (.cells #[.func (.yield l) #[] #[]] 106))) := ⟨hj _ _ _ hJ (far_below hb none), Boxed.new W _ _⟩
  have HGo : Hid (Goes (trF Bg W.heap.size) true a n c fs (fun _ => true) W0 ts (Passed fs n l W.heap.size J) (Passed fs n l W.heap.size Jx)) :=
    ⟨fun p x pre X hl hX hJX => becomes_read a n c l Bg W.heap.size p x fs ts J Jx pre W0 X hR hj hB hC.got hf (ht _ (by simp)) hl hX hJX, passed_grows hj, passed_grows hx, ht⟩
  have HB : Hid (Base W0 a n fs ∧ Below W0.heap.size W0 (W.alloc (.cells #[.func (.yield l) #[] #[]] 106)) ∧ OpGood kind k v) := ⟨hB, hb0, hg⟩
  clear hR hj hx hB hC hW hJ hg ht hf hb hb0 lg ld
  go_enter Tryz.func64, Tryz.ntmps64
  go_wp2_with fail
  refine (words_any a n c _ true kind k v fs (fun _ => true) ts _ _ W0 _ HGo.out HB.out.1 HB.out.2.1 HJ.out HB.out.2.2).mono ?_
  rintro e W' ⟨⟨r, rfl⟩, b, hF⟩
  have HF : Hid (J ((wordsT true (stepsT true fs n kind k v)).filter (goR fs n)) W') := by
    have h := fin_all hF (fun _ _ => rfl)
    rw [List.nil_append] at h
    exact h.1
  clear hF
  go_wp2
  go_end0
  exact ⟨⟨_, rfl⟩, HF.out⟩
/-- The function value tells the words of the op that were read. -/
theorem read_seq (a : Option Addr) (n c Bg Bd : Nat) (kind k v : Int) (fs : List Int) (ts : List TypeId) (W0 w1 : World) (hW1 : Below W0.heap.size W0 w1) (hB : Base W0 a n fs) (hC : Caught a n c (deedT kind) kind k v Bg Bd W0) (hg : OpGood kind k v)
    (ht : ∀ t ∈ [108, 91, 92, 93, 100, 94, 95, 96, 98, 53, 29], t ∉ ts) (hf : 106 ∉ ts) :
    SeqGo Tryz.prog 64 #[.pointer (some ⟨Bg, 0, none⟩), .pointer (some ⟨Bd, 0, none⟩)] encE (fun _ => true) W0.heap.size ts ((wordsT true (stepsT true fs n kind k v)).filter (goR fs n)) w1 := fun l J Jx W hW hj hx hR h0 => by
  refine (read1_any a n c l Bg Bd kind k v fs ts J Jx W0 W hR hj hx hB hC (hW1.trans (hW.mono hW1.size)) h0 hg ht hf).mono ?_
  rintro e W' ⟨he, hF⟩
  exact ⟨he, fun _ => hF, fun pre x rest _ _ e3 => by cases e3⟩

set_option maxHeartbeats 1000000 in
theorem readOf_any (a : Option Addr) (n c : Nat) (d : Value) (T : TypeId) (x : Value) (hd : d = .iface T x) (w : World) :
    Calls Tryz.prog 23 #[d, .slice a n c] w fun e w' => e = .returned (.func (.func 64) #[] #[.pointer (some ⟨w.heap.size + 1, 0, none⟩), .pointer (some ⟨w.heap.size, 0, none⟩)]) ∧
      w' = (w.alloc (.cells #[d] 53)).alloc (.cells #[.slice a n c] 29) := by
  subst hd
  go_enter Tryz.func23, Tryz.ntmps23
  go_wp2
  go_ret
  exact ⟨rfl, rfl⟩
end Go.Proofs.YtenlapppaimkkaeGreatDoor

/- Lists of entries as they lie in memory (number by number), and spec.l5Add, l5Same, l5More. -/
namespace Go.Proofs.YtenlapppaimkkaeGreatDoor
open Go.ChangeShapes Go.WideShapes Go.ChangeAt Go.RowKit

/-- n entries lie there: 3 * n numbers. -/
def EntAt (w : World) (a : Option Addr) (n : Nat) (gs : List Int) : Prop :=
  gs.length = n * 3 ∧ n ≤ 1048576 ∧ ((a = none ∧ n = 0) ∨ ∃ b o, a = some ⟨b, o, none⟩ ∧ ∀ i, i < n * 3 → w.cell? ⟨b, o + i, none⟩ = some (I (gs.getD i 0)))
theorem EntAt.below {w w' : World} {a : Option Addr} {n : Nat} {gs : List Int} (h : EntAt w a n gs) {B : Nat} (hb : Below B w w') (hB : w.heap.size ≤ B) : EntAt w' a n gs := by
  obtain ⟨h1, h2, h3 | ⟨b, o, h3, h4⟩⟩ := h
  · exact ⟨h1, h2, .inl h3⟩
  · refine ⟨h1, h2, .inr ⟨b, o, h3, fun i hi => ?_⟩⟩
    have h5 := h4 i hi
    rw [hb.cell (show b < B from Nat.lt_of_lt_of_le (World.block_lt_of_cell? w _ h5) hB)]
    exact h5
theorem own_entAt {w : World} {base : Nat} {e : TypeId} {v : Value} {n : Nat} {gs : List Int} (h : w.ownsRow base e 3 v n (gs.map I)) (hn : n ≤ 1048576) : ∃ a c, v = .slice a n c ∧ EntAt w a n gs ∧ ∀ q, a = some q → base ≤ q.block := by
  have hl : gs.length = n * 3 := by have := h.1; simpa using this
  rcases h.2 with ⟨rfl, h0⟩ | ⟨g, cap, cur, rfl, hgb, _⟩
  · exact ⟨none, 0, by rw [h0], ⟨hl, hn, .inl ⟨rfl, h0⟩⟩, fun q e => by cases e⟩
  · refine ⟨_, cap, rfl, ⟨hl, hn, .inr ⟨g, 0, rfl, fun i hi => ?_⟩⟩, fun q e => by cases e; exact hgb⟩
    rw [Nat.zero_add, h.cellAt i (by omega), List.getElem?_map, List.getElem?_eq_getElem (by omega)]
    simp [List.getD, show i < gs.length by omega]
/-- Where an entry of that place goes. -/
def posE (gs : List Int) (at_ : Int) : Nat → Nat → Nat
  | 0, k => k
  | f + 1, k => if gs.getD (k * 3) 0 < at_ then posE gs at_ f (k + 1) else k
theorem posE_le (gs : List Int) (at_ : Int) : ∀ (f k : Nat), posE gs at_ f k ≤ k + f
  | 0, k => Nat.le_refl _
  | f + 1, k => by
    unfold posE
    split
    · have := posE_le gs at_ f (k + 1); omega
    · omega
/-- An entry put in by its place, if the word was read. -/
def addE (gs : List Int) (n : Nat) (fs : List Int) (m : Nat) (at_ v : Int) : List Int × Nat :=
  if (readF fs at_ m).2 = true ∧ 0 ≤ at_ then
    (gs.take (posE gs at_ n 0 * 3) ++ [at_, (readF fs at_ m).1, v] ++ gs.drop (posE gs at_ n 0 * 3), n + 1)
  else (gs, n)
theorem infoEnt : (Tryz.prog.info? 60).map (fun i => (i.zero, i.size, i.bytes)) = some (some (.agg #[.int .i64 0, .int .i64 0, .int .i64 0]), 3, 24) := by kernel_rfl
theorem own_empty3 {w : World} {base : Nat} (hb : base ≤ w.heap.size) : (w.alloc (.cells #[] 60)).ownsRow base 60 3 (.slice (some ⟨w.heap.size, 0, none⟩) 0 0) 0 ([].map I) :=
  ⟨rfl, .inr ⟨w.heap.size, 0, #[], rfl, hb, (by show (w.heap.push _)[w.heap.size]? = _; simp), Nat.le_refl _, by unfold maxLen; omega, rfl, rfl⟩⟩

theorem ent_cells {W : World} {b o n : Nat} {gs : List Int} (h : EntAt W (some ⟨b, o, none⟩) n gs) : ∀ i, i < n * 3 → W.cell? ⟨b, o + i, none⟩ = some (I (gs.getD i 0)) := by
  rcases h.2.2 with ⟨h0, _⟩ | ⟨b', o', e, g⟩
  · cases h0
  · cases e; exact g
theorem ent_take {W : World} {b o n : Nat} {gs : List Int} (h : EntAt W (some ⟨b, o, none⟩) n gs) {t : Nat} (ht : t ≤ n * 3) : ∀ (j : Nat) (u : Value), ((gs.take t).map I)[j]? = some u → W.cell? ((⟨b, o, none⟩ : Addr).add j) = some u := by
  intro j u hj
  have hl := h.1
  rw [List.getElem?_map, List.getElem?_take] at hj
  by_cases hjt : j < t
  · rw [if_pos hjt, List.getElem?_eq_getElem (by omega)] at hj
    have := ent_cells h j (by omega)
    rw [show (⟨b, o, none⟩ : Addr).add j = ⟨b, o + j, none⟩ by simp [Addr.add], this]
    simpa [List.getD, show j < gs.length by omega] using hj
  · rw [if_neg hjt] at hj; simp at hj
theorem ent_drop {W : World} {b o n : Nat} {gs : List Int} (h : EntAt W (some ⟨b, o, none⟩) n gs) (s : Nat) : ∀ (j : Nat) (u : Value), ((gs.drop s).map I)[j]? = some u → W.cell? ((⟨b, o + s, none⟩ : Addr).add j) = some u := by
  intro j u hj
  have hl := h.1
  rw [List.getElem?_map, List.getElem?_drop] at hj
  by_cases hjt : s + j < gs.length
  · rw [List.getElem?_eq_getElem hjt] at hj
    have := ent_cells h (s + j) (by omega)
    rw [show (⟨b, o + s, none⟩ : Addr).add j = ⟨b, o + (s + j), none⟩ by simp [Addr.add, Nat.add_assoc], this]
    simpa [List.getD, hjt] using hj
  · rw [List.getElem?_eq_none (by omega)] at hj; simp at hj
theorem cell_three_new (w : World) (x y z : Value) (t : TypeId) : ∀ (j : Nat) (u : Value), [x, y, z][j]? = some u → (w.alloc (.cells #[x, y, z] t)).cell? ((⟨w.heap.size, 0, none⟩ : Addr).add j) = some u := by
  intro j u hj
  rcases j with _ | _ | _ | j
  · simp only [List.getElem?_cons_zero, Option.some.injEq] at hj; subst hj; simp [Addr.add]
  · simp only [List.getElem?_cons_succ, List.getElem?_cons_zero, Option.some.injEq] at hj; subst hj; simp [Addr.add]
  · simp only [List.getElem?_cons_succ, List.getElem?_cons_zero, Option.some.injEq] at hj; subst hj; simp [Addr.add]
  · simp at hj
theorem own_none_cap {w : World} {base : Nat} {e : TypeId} {size n c : Nat} {xs : List Value} (h : w.ownsRow base e size (.slice none n c) n xs) : c = 0 := by
  rcases h.2 with ⟨h1, _⟩ | ⟨g, cap, cur, h1, _⟩
  · cases h1; rfl
  · cases h1
theorem own_cap {w : World} {base : Nat} {e : TypeId} {size n c : Nat} {a : Option Addr} {xs : List Value} (h : w.ownsRow base e size (.slice a n c) n xs) : n ≤ c := by
  rcases h.2 with ⟨h1, h2⟩ | ⟨g, cap, cur, h1, _, _, h2, _⟩
  · cases h1; omega
  · cases h1; exact h2
theorem three_one (x y z : Int) : ∀ u ∈ [I x, I y, I z], u.oneCell' = true := by
  intro u hu
  simp at hu
  rcases hu with rfl | rfl | rfl <;> rfl

set_option maxRecDepth 100000 in
set_option maxHeartbeats 4000000 in
theorem l5Add_any (a : Option Addr) (n c : Nat) (gs : List Int) (pa : Option Addr) (m pc : Nat) (fs : List Int) (at_ v : Int) (w : World) (hE : EntAt w a n gs) (hP : PairAt w pa m fs) (hn : n < 1048576) (hc : a = none → c = 0) (hcap : n ≤ c) :
    Calls Tryz.prog 31 #[.slice a n c, .slice pa m pc, .int .i64 at_, .int .i64 v] w fun e w' => ∃ a' c', e = .returned (.slice a' (addE gs n fs m at_ v).2 c') ∧ EntAt w' a' (addE gs n fs m at_ v).2 (addE gs n fs m at_ v).1 ∧ (a' = none → c' = 0) ∧ (addE gs n fs m at_ v).2 ≤ c' ∧ (a' = a ∨ ∀ q, a' = some q → w.heap.size ≤ q.block) ∧ Below w.heap.size w w' := by
  have HE : Hid (EntAt w a n gs) := hE
  have HP : Hid (PairAt w pa m fs) := hP
  have HC : Hid ((a = none → c = 0) ∧ n ≤ c ∧ n < 1048576) := ⟨hc, hcap, hn⟩
  clear hE hP hc
  obtain ⟨⟨r1, r2⟩, hr⟩ : ∃ r, readF fs at_ m = r := ⟨_, rfl⟩
  have HR : Hid (readF fs at_ m = (r1, r2)) := hr
  clear hr
  by_cases hy : r2 = true ∧ 0 ≤ at_
  case neg =>
    have e : addE gs n fs m at_ v = (gs, n) := by unfold addE; rw [HR.out]; exact if_neg hy
    rw [e]
    cases r2 with
    | false =>
      go_enter Tryz.func31, Tryz.ntmps31
      go_wp2_with fail
      refine (specRead_any pa m pc at_ fs _ HP.out).mono ?_
      rintro e w1 ⟨rfl, hb1⟩
      rw [HR.out]
      go_wp2
      go_ret
      exact ⟨a, c, rfl, HE.out.below hb1 (Nat.le_refl _), HC.out.1, HC.out.2.1, .inl rfl, hb1⟩
    | true =>
      have hlt : at_ < 0 := by simp at hy; omega
      clear hy e
      go_enter Tryz.func31, Tryz.ntmps31
      go_wp2_with fail
      refine (specRead_any pa m pc at_ fs _ HP.out).mono ?_
      rintro e w1 ⟨rfl, hb1⟩
      rw [HR.out]
      go_wp2
      go_ret
      exact ⟨a, c, rfl, HE.out.below hb1 (Nat.le_refl _), HC.out.1, HC.out.2.1, .inl rfl, hb1⟩
  obtain ⟨rfl, hat⟩ := hy
  have e : addE gs n fs m at_ v = (gs.take (posE gs at_ n 0 * 3) ++ [at_, r1, v] ++ gs.drop (posE gs at_ n 0 * 3), n + 1) := by unfold addE; rw [HR.out]; exact if_pos ⟨rfl, hat⟩
  rw [e]
  clear e
  obtain ⟨i0, hi, hz0, hz1, hz2⟩ := info_parts infoEnt
  go_enter Tryz.func31, Tryz.ntmps31
  go_wp2_with fail
  refine (specRead_any pa m pc at_ fs _ HP.out).mono ?_
  rintro e w1 ⟨rfl, hb1⟩
  rw [HR.out]
  have HE1 : Hid (EntAt w1 a n gs) := HE.out.below hb1 (Nat.le_refl _)
  have HB1 : Hid (Below w.heap.size w w1) := hb1
  clear hb1
  go_wp2_with fail
  go_loopw [11] (fun i wr => ∃ k : Nat, k ≤ n ∧ i = .int .i64 (k : Int) ∧ posE gs at_ n 0 = posE gs at_ (n - k) k ∧ wr = w1) (fun i _ => n - (intOf i).toNat)
  case atStart => exact ⟨0, Nat.zero_le _, rfl, rfl, rfl⟩
  case round =>
    obtain ⟨k, hk, rfl, hpos, rfl⟩ := hrel
    have HPOS : Hid (posE gs at_ n 0 = posE gs at_ (n - k) k) := hpos
    clear hpos
    by_cases hlt : k < n
    · have hk0 : (0 : Int) ≤ (k : Int) := by omega
      have hk1 : (k : Int) < (n : Int) := by omega
      rcases HE1.out.2.2 with ⟨_, h0⟩ | ⟨b, o, rfl, g1⟩
      · omega
      have e1 := g1 (k * 3) (by omega)
      obtain ⟨x, hx⟩ : ∃ x, gs.getD (k * 3) 0 = x := ⟨_, rfl⟩
      rw [hx] at e1
      have HX : Hid (gs.getD (k * 3) 0 = x) := hx
      clear g1 hx
      by_cases hxa : x < at_
      · have HN : Hid (posE gs at_ n 0 = posE gs at_ (n - (k + 1)) (k + 1)) := by
          rw [HPOS.out, show n - k = n - (k + 1) + 1 by omega]
          show (if _ then _ else _) = _
          rw [if_pos (by rw [HX.out]; exact hxa)]
        go_wp2
        exact ⟨⟨k + 1, by omega, by go_num, HN.out, by first | rfl | trivial⟩, by simp [intOf]; omega⟩
      · have HN : Hid (posE gs at_ n 0 = k) := by
          rw [HPOS.out, show n - k = n - (k + 1) + 1 by omega]
          show (if _ then _ else _) = _
          rw [if_neg (by rw [HX.out]; exact hxa)]
        go_wp2_with (first
          | (have _m := m2; at_builtin; refine wpList_append_own _ rfl _ _ 34 rfl w.heap.size 60 i0 (.agg #[.int .i64 0, .int .i64 0, .int .i64 0]) 3 24 Tryz.underlying34 hi hz0 hz1 hz2 rfl (by decide) _ _ _ rfl OWN3.out ⟨b, o + k * 3, none⟩ (n - k) (c - k) ((gs.drop (k * 3)).map I) rfl (by have := HE1.out.1; simp; omega) (ent_drop HE3.out (k * 3)) news_one (by unfold maxLen; omega) (by omega) HB3.out.size ?_
             intro v4 w4 hown4 hgrow4 _
             have OWN4 : Hid (w4.ownsRow w.heap.size 60 3 v4 (0 + k + 1 + (n - k)) ([].map I ++ (gs.take (k * 3)).map I ++ [I at_, I r1, I v] ++ (gs.drop (k * 3)).map I)) := hown4
             have HB4 : Hid (Below w.heap.size w w4) := HB3.out.grown hgrow4 HB3.out.size (fun j e => (OWN3.out.lt j e).1)
             clear hown4 hgrow4)
          | (have _m := m1; at_builtin; refine wpList_append_own _ rfl _ _ 34 rfl w.heap.size 60 i0 (.agg #[.int .i64 0, .int .i64 0, .int .i64 0]) 3 24 Tryz.underlying34 hi hz0 hz1 hz2 rfl (by decide) _ _ _ rfl (OWN2.out.alloc _) ⟨w2.heap.size, 0, none⟩ 1 1 [I at_, I r1, I v] rfl rfl (cell_three_new _ _ _ _ _) (three_one _ _ _) (by unfold maxLen; omega) (by omega) (by have := HB2.out.size; simp; omega) ?_
             intro v3 w3 hown3 hgrow3 _
             have OWN3 : Hid (w3.ownsRow w.heap.size 60 3 v3 (0 + k + 1) ([].map I ++ (gs.take (k * 3)).map I ++ [I at_, I r1, I v])) := hown3
             have HB3 : Hid (Below w.heap.size w w3) := (HB2.out.alloc HB2.out.size _).grown hgrow3 (by have := HB2.out.size; simp; omega) (fun j e => (OWN2.out.lt j e).1)
             have HE3 : Hid (EntAt w3 (some ⟨b, o, none⟩) n gs) := HE.out.below HB3.out (Nat.le_refl _)
             have m2 : True := trivial
             clear hown3 hgrow3)
          | (at_builtin; refine wpList_append_own _ rfl _ _ 34 rfl w.heap.size 60 i0 (.agg #[.int .i64 0, .int .i64 0, .int .i64 0]) 3 24 Tryz.underlying34 hi hz0 hz1 hz2 rfl (by decide) _ 0 ([].map I) rfl (own_empty3 HB1.out.size) ⟨b, o, none⟩ k c ((gs.take (k * 3)).map I) rfl (by have := HE1.out.1; simp; omega) (ent_take (HE1.out.below ((Below.refl _ _).alloc (Nat.le_refl _) _) (Nat.le_refl _)) (by omega)) news_one (by unfold maxLen; omega) (by omega) (by have := HB1.out.size; simp; omega) ?_
             intro v2 w2 hown2 hgrow2 _
             have OWN2 : Hid (w2.ownsRow w.heap.size 60 3 v2 (0 + k) ([].map I ++ (gs.take (k * 3)).map I)) := hown2
             have HB2 : Hid (Below w.heap.size w w2) := (HB1.out.alloc HB1.out.size _).grown hgrow2 (by have := HB1.out.size; simp; omega) (fun j e => by cases e; exact HB1.out.size)
             have m1 : True := trivial
             clear hown2 hgrow2))
        go_ret
        have hn' := HC.out.2.2
        have ho := OWN4.out
        rw [← List.map_append, show [I at_, I r1, I v] = [at_, r1, v].map I from rfl, ← List.map_append, ← List.map_append, List.nil_append, show 0 + k + 1 + (n - k) = n + 1 by omega] at ho
        obtain ⟨a', c', rfl, hE', hfr⟩ := own_entAt ho (by omega)
        refine ⟨a', c', rfl, ?_, ?_, ?_, .inr hfr, HB4.out⟩
        · rw [HN.out]; simpa using hE'
        · rintro rfl; exact own_none_cap ho
        · exact own_cap ho
    · have HKN : Hid (k = n) := (by omega : k = n)
      have HN : Hid (posE gs at_ n 0 = k) := by rw [HPOS.out, HKN.out, Nat.sub_self]; rfl
      rcases HE1.out.2.2 with ⟨rfl, h0⟩ | ⟨b, o, rfl, g1⟩
      · have hc0 := HC.out.1 rfl
        subst hc0
        subst h0
        obtain rfl : k = 0 := HKN.out
        have hgs : gs = [] := List.eq_nil_of_length_eq_zero (by have := HE1.out.1; omega)
        have HGS : Hid (gs = []) := hgs
        clear hgs
        have hs0 : w.heap.size ≤ (wr.alloc (.cells #[] 60)).heap.size := by have := HB1.out.size; simp; omega
        have OWN1 : Hid ((wr.alloc (.cells #[] 60)).ownsRow w.heap.size 60 3 (.slice (some ⟨wr.heap.size, 0, none⟩) 0 0) 0 ([].map I)) := own_empty3 HB1.out.size
        have c3 : ∀ (j : Nat) (u : Value), [I at_, I r1, I v][j]? = some u → ((wr.alloc (.cells #[] 60)).alloc (.cells #[I at_, I r1, I v] 60)).cell? ((⟨wr.heap.size + 1, 0, none⟩ : Addr).add j) = some u := by
          have := cell_three_new (wr.alloc (.cells #[] 60)) (I at_) (I r1) (I v) 60; rw [World.size_alloc] at this; exact this
        have C3 : Hid (∀ (j : Nat) (u : Value), [I at_, I r1, I v][j]? = some u → ((wr.alloc (.cells #[] 60)).alloc (.cells #[I at_, I r1, I v] 60)).cell? ((⟨wr.heap.size + 1, 0, none⟩ : Addr).add j) = some u) := c3
        have HS0 : Hid (w.heap.size ≤ (wr.alloc (.cells #[] 60)).heap.size) := hs0
        clear c3 hs0
        go_wp2_with (first
          | (have _m := m2; at_builtin; refine wpList_append_own_none rfl _ _ 34 rfl w.heap.size 60 i0 3 Tryz.underlying34 hi _ _ _ rfl OWN3.out rfl ?_)
          | (have _m := m1; at_builtin; refine wpList_append_own _ rfl _ _ 34 rfl w.heap.size 60 i0 (.agg #[.int .i64 0, .int .i64 0, .int .i64 0]) 3 24 Tryz.underlying34 hi hz0 hz1 hz2 rfl (by decide) _ 0 ([].map I) rfl (OWN1.out.alloc _) ⟨wr.heap.size + 1, 0, none⟩ 1 1 [I at_, I r1, I v] rfl rfl C3.out (three_one _ _ _) (by unfold maxLen; omega) (by omega) (by have := HS0.out; rw [World.size_alloc]; omega) ?_
             intro v3 w3 hown3 hgrow3 _
             have OWN3 : Hid (w3.ownsRow w.heap.size 60 3 v3 (0 + 1) ([].map I ++ [I at_, I r1, I v])) := hown3
             have HB3 : Hid (Below w.heap.size w w3) := ((HB1.out.alloc HB1.out.size _).alloc HS0.out _).grown hgrow3 (by have := HS0.out; rw [World.size_alloc]; omega) (fun j e => by cases e; exact HB1.out.size)
             have m2 : True := trivial
             clear hown3 hgrow3)
          | (at_builtin; refine wpList_append_own_none rfl _ _ 34 rfl w.heap.size 60 i0 3 Tryz.underlying34 hi _ _ _ rfl OWN1.out rfl ?_
             have m1 : True := trivial))
        go_ret
        have ho := OWN3.out
        rw [show [I at_, I r1, I v] = [at_, r1, v].map I from rfl, ← List.map_append, List.nil_append, Nat.zero_add] at ho
        obtain ⟨a', c', rfl, hE', hfr⟩ := own_entAt ho (by omega)
        refine ⟨a', c', rfl, ?_, ?_, ?_, .inr hfr, HB3.out⟩
        · rw [HGS.out]; simpa using hE'
        · rintro rfl; exact own_none_cap ho
        · exact own_cap ho
      · clear g1
        by_cases hck : c = k
        · subst hck
          go_wp2_with (first
            | (have _m := m2; at_builtin; refine wpList_append_own _ rfl _ _ 34 rfl w.heap.size 60 i0 (.agg #[.int .i64 0, .int .i64 0, .int .i64 0]) 3 24 Tryz.underlying34 hi hz0 hz1 hz2 rfl (by decide) _ _ _ rfl OWN3.out _ 0 _ [] rfl rfl (by intro j u h; simp at h) (by intro u h; simp at h) (by unfold maxLen; omega) (by omega) HB3.out.size ?_
               intro v4 w4 hown4 hgrow4 _
               have OWN4 : Hid (w4.ownsRow w.heap.size 60 3 v4 (0 + c + 1 + 0) ([].map I ++ (gs.take (c * 3)).map I ++ [I at_, I r1, I v] ++ [])) := hown4
               have HB4 : Hid (Below w.heap.size w w4) := HB3.out.grown hgrow4 HB3.out.size (fun j e => (OWN3.out.lt j e).1)
               clear hown4 hgrow4)
            | (have _m := m1; at_builtin; refine wpList_append_own _ rfl _ _ 34 rfl w.heap.size 60 i0 (.agg #[.int .i64 0, .int .i64 0, .int .i64 0]) 3 24 Tryz.underlying34 hi hz0 hz1 hz2 rfl (by decide) _ _ _ rfl (OWN2.out.alloc _) ⟨w2.heap.size, 0, none⟩ 1 1 [I at_, I r1, I v] rfl rfl (cell_three_new _ _ _ _ _) (three_one _ _ _) (by unfold maxLen; omega) (by omega) (by have := HB2.out.size; simp; omega) ?_
               intro v3 w3 hown3 hgrow3 _
               have OWN3 : Hid (w3.ownsRow w.heap.size 60 3 v3 (0 + c + 1) ([].map I ++ (gs.take (c * 3)).map I ++ [I at_, I r1, I v])) := hown3
               have HB3 : Hid (Below w.heap.size w w3) := (HB2.out.alloc HB2.out.size _).grown hgrow3 (by have := HB2.out.size; simp; omega) (fun j e => (OWN2.out.lt j e).1)
               have HE3 : Hid (EntAt w3 (some ⟨b, o, none⟩) n gs) := HE.out.below HB3.out (Nat.le_refl _)
               have m2 : True := trivial
               clear hown3 hgrow3)
            | (at_builtin; refine wpList_append_own _ rfl _ _ 34 rfl w.heap.size 60 i0 (.agg #[.int .i64 0, .int .i64 0, .int .i64 0]) 3 24 Tryz.underlying34 hi hz0 hz1 hz2 rfl (by decide) _ 0 ([].map I) rfl (own_empty3 HB1.out.size) ⟨b, o, none⟩ c c ((gs.take (c * 3)).map I) rfl (by have := HE1.out.1; simp; omega) (ent_take (HE1.out.below ((Below.refl _ _).alloc (Nat.le_refl _) _) (Nat.le_refl _)) (by omega)) news_one (by unfold maxLen; omega) (by omega) (by have := HB1.out.size; simp; omega) ?_
               intro v2 w2 hown2 hgrow2 _
               have OWN2 : Hid (w2.ownsRow w.heap.size 60 3 v2 (0 + c) ([].map I ++ (gs.take (c * 3)).map I)) := hown2
               have HB2 : Hid (Below w.heap.size w w2) := (HB1.out.alloc HB1.out.size _).grown hgrow2 (by have := HB1.out.size; simp; omega) (fun j e => by cases e; exact HB1.out.size)
               have m1 : True := trivial
               clear hown2 hgrow2))
          go_ret
          have hn' := HC.out.2.2
          have ho := OWN4.out
          rw [← List.map_append, show [I at_, I r1, I v] = [at_, r1, v].map I from rfl, ← List.map_append, List.append_nil, List.nil_append, show 0 + c + 1 + 0 = n + 1 by have := HKN.out; omega] at ho
          obtain ⟨a', c', rfl, hE', hfr⟩ := own_entAt ho (by omega)
          refine ⟨a', c', rfl, ?_, ?_, ?_, .inr hfr, HB4.out⟩
          · rw [HN.out, List.drop_of_length_le (by have := HE1.out.1; have := HKN.out; omega)]; simpa using hE'
          · rintro rfl; exact own_none_cap ho
          · exact own_cap ho
        · skip
          go_wp2_with (first
            | (have _m := m2; at_builtin; refine wpList_append_own _ rfl _ _ 34 rfl w.heap.size 60 i0 (.agg #[.int .i64 0, .int .i64 0, .int .i64 0]) 3 24 Tryz.underlying34 hi hz0 hz1 hz2 rfl (by decide) _ _ _ rfl OWN3.out _ (n - k) _ [] rfl (by have := HKN.out; simp; omega) (by intro j u h; simp at h) (by intro u h; simp at h) (by unfold maxLen; omega) (by omega) HB3.out.size ?_
               intro v4 w4 hown4 hgrow4 _
               have OWN4 : Hid (w4.ownsRow w.heap.size 60 3 v4 (0 + k + 1 + (n - k)) ([].map I ++ (gs.take (k * 3)).map I ++ [I at_, I r1, I v] ++ [])) := hown4
               have HB4 : Hid (Below w.heap.size w w4) := HB3.out.grown hgrow4 HB3.out.size (fun j e => (OWN3.out.lt j e).1)
               clear hown4 hgrow4)
            | (have _m := m1; at_builtin; refine wpList_append_own _ rfl _ _ 34 rfl w.heap.size 60 i0 (.agg #[.int .i64 0, .int .i64 0, .int .i64 0]) 3 24 Tryz.underlying34 hi hz0 hz1 hz2 rfl (by decide) _ _ _ rfl (OWN2.out.alloc _) ⟨w2.heap.size, 0, none⟩ 1 1 [I at_, I r1, I v] rfl rfl (cell_three_new _ _ _ _ _) (three_one _ _ _) (by unfold maxLen; omega) (by omega) (by have := HB2.out.size; simp; omega) ?_
               intro v3 w3 hown3 hgrow3 _
               have OWN3 : Hid (w3.ownsRow w.heap.size 60 3 v3 (0 + k + 1) ([].map I ++ (gs.take (k * 3)).map I ++ [I at_, I r1, I v])) := hown3
               have HB3 : Hid (Below w.heap.size w w3) := (HB2.out.alloc HB2.out.size _).grown hgrow3 (by have := HB2.out.size; simp; omega) (fun j e => (OWN2.out.lt j e).1)
               have HE3 : Hid (EntAt w3 (some ⟨b, o, none⟩) n gs) := HE.out.below HB3.out (Nat.le_refl _)
               have m2 : True := trivial
               clear hown3 hgrow3)
            | (at_builtin; refine wpList_append_own _ rfl _ _ 34 rfl w.heap.size 60 i0 (.agg #[.int .i64 0, .int .i64 0, .int .i64 0]) 3 24 Tryz.underlying34 hi hz0 hz1 hz2 rfl (by decide) _ 0 ([].map I) rfl (own_empty3 HB1.out.size) ⟨b, o, none⟩ k c ((gs.take (k * 3)).map I) rfl (by have := HE1.out.1; simp; omega) (ent_take (HE1.out.below ((Below.refl _ _).alloc (Nat.le_refl _) _) (Nat.le_refl _)) (by omega)) news_one (by unfold maxLen; omega) (by omega) (by have := HB1.out.size; simp; omega) ?_
               intro v2 w2 hown2 hgrow2 _
               have OWN2 : Hid (w2.ownsRow w.heap.size 60 3 v2 (0 + k) ([].map I ++ (gs.take (k * 3)).map I)) := hown2
               have HB2 : Hid (Below w.heap.size w w2) := (HB1.out.alloc HB1.out.size _).grown hgrow2 (by have := HB1.out.size; simp; omega) (fun j e => by cases e; exact HB1.out.size)
               have m1 : True := trivial
               clear hown2 hgrow2))
          go_ret
          have hn' := HC.out.2.2
          have ho := OWN4.out
          rw [← List.map_append, show [I at_, I r1, I v] = [at_, r1, v].map I from rfl, ← List.map_append, List.append_nil, List.nil_append, show 0 + k + 1 + (n - k) = n + 1 by omega] at ho
          obtain ⟨a', c', rfl, hE', hfr⟩ := own_entAt ho (by omega)
          refine ⟨a', c', rfl, ?_, ?_, ?_, .inr hfr, HB4.out⟩
          · rw [HN.out, List.drop_of_length_le (by have := HE1.out.1; have := HKN.out; omega)]; simpa using hE'
          · rintro rfl; exact own_none_cap ho
          · exact own_cap ho
end Go.Proofs.YtenlapppaimkkaeGreatDoor

/- spec.l5Same, spec.l5More: lists of entries as values. -/
namespace Go.Proofs.YtenlapppaimkkaeGreatDoor
open Go.ChangeShapes Go.WideShapes Go.ChangeAt Go.RowKit

/-- The value is a list of entries: their numbers, and how many. -/
def ListE (B : Nat) (w : World) (v : Value) (L : List Int × Nat) : Prop := ∃ a c, v = .slice a L.2 c ∧ EntAt w a L.2 L.1 ∧ (a = none → c = 0) ∧ L.2 ≤ c ∧ ∀ q, a = some q → B ≤ q.block
theorem ListE.below {B0 : Nat} {w w' : World} {v : Value} {L : List Int × Nat} (h : ListE B0 w v L) {B : Nat} (hb : Below B w w') (hB : w.heap.size ≤ B) : ListE B0 w' v L := by
  obtain ⟨a, c, h1, h2, h3⟩ := h
  exact ⟨a, c, h1, h2.below hb hB, h3⟩
theorem listE_nil (B : Nat) (w : World) : ListE B w (.slice none 0 0) ([], 0) := ⟨none, 0, rfl, ⟨rfl, by omega, .inl ⟨rfl, rfl⟩⟩, fun _ => rfl, Nat.le_refl _, fun q e => by cases e⟩
def addL (L : List Int × Nat) (fs : List Int) (m : Nat) (at_ v : Int) : List Int × Nat := addE L.1 L.2 fs m at_ v
theorem addL_le (L : List Int × Nat) (fs : List Int) (m : Nat) (at_ v : Int) : (addL L fs m at_ v).2 ≤ L.2 + 1 := by
  unfold addL addE
  split <;> simp
theorem l5Add_L (v0 : Value) (L : List Int × Nat) (pa : Option Addr) (m pc : Nat) (fs : List Int) (at_ v : Int) (w : World) (B : Nat) (hL : ListE B w v0 L) (hP : PairAt w pa m fs) (hn : L.2 < 1048576) (hB : B ≤ w.heap.size) :
    Calls Tryz.prog 31 #[v0, .slice pa m pc, .int .i64 at_, .int .i64 v] w fun e w' => ∃ v', e = .returned v' ∧ ListE B w' v' (addL L fs m at_ v) ∧ Below w.heap.size w w' := by
  obtain ⟨a, c, rfl, h1, h2, h3, h4⟩ := hL
  refine (l5Add_any a L.2 c L.1 pa m pc fs at_ v w h1 hP hn h2 h3).mono ?_
  rintro e w' ⟨a', c', rfl, g1, g2, g3, g5, g4⟩
  exact ⟨_, rfl, ⟨a', c', rfl, g1, g2, g3, fun q e => g5.elim (fun h => h4 q (h ▸ e)) (fun h => Nat.le_trans hB (h q e))⟩, g4⟩

set_option maxHeartbeats 1000000 in
theorem l5Same_L (v0 : Value) (L : List Int × Nat) (pa : Option Addr) (m pc : Nat) (fs : List Int) (at_ : Int) (w : World) (B : Nat) (hL : ListE B w v0 L) (hP : PairAt w pa m fs) (hn : L.2 < 1048576) (hB : B ≤ w.heap.size) :
    Calls Tryz.prog 29 #[v0, .slice pa m pc, .int .i64 at_] w fun e w' => ∃ v', e = .returned v' ∧ ListE B w' v' (addL L fs m at_ (readF fs at_ m).1) ∧ Below w.heap.size w w' := by
  have HL : Hid (ListE B w v0 L ∧ B ≤ w.heap.size) := ⟨hL, hB⟩
  have HP : Hid (PairAt w pa m fs) := hP
  have HN : Hid (L.2 < 1048576) := hn
  clear hL hP hn hB
  obtain ⟨⟨r1, r2⟩, hr⟩ : ∃ r, readF fs at_ m = r := ⟨_, rfl⟩
  have HR : Hid (readF fs at_ m = (r1, r2)) := hr
  clear hr
  rw [HR.out]
  go_enter Tryz.func29, Tryz.ntmps29
  go_wp2_with fail
  refine (specRead_any pa m pc at_ fs _ HP.out).mono ?_
  rintro e w1 ⟨rfl, hb1⟩
  rw [HR.out]
  have HB1 : Hid (Below w.heap.size w w1) := hb1
  clear hb1
  go_wp2_with fail
  refine (l5Add_L v0 L pa m pc fs at_ r1 _ B (HL.out.1.below HB1.out (Nat.le_refl _)) (HP.out.below HB1.out (Nat.le_refl _)) HN.out (Nat.le_trans HL.out.2 HB1.out.size)).mono ?_
  rintro e w2 ⟨v', rfl, hL2, hb2⟩
  have H2 : Hid (ListE B w2 v' (addL L fs m at_ r1) ∧ Below w.heap.size w w2) := ⟨hL2, HB1.out.trans (hb2.mono HB1.out.size)⟩
  clear hL2 hb2
  go_wp2
  go_ret
  exact ⟨v', rfl, H2.out.1, H2.out.2⟩

theorem l1Max_any (x y : Int) (w : World) : Calls Tryz.prog 103 #[.int .i64 x, .int .i64 y] w fun e w' => e = .returned (.int .i64 (max x y)) ∧ w' = w := by
  by_cases h : y < x
  · have e : max x y = x := by omega
    rw [e]
    clear e
    go_enter Tryz.func103, Tryz.ntmps103
    go_wp2
    go_ret
    exact ⟨rfl, rfl⟩
  · have e : max x y = y := by omega
    rw [e]
    clear e
    go_enter Tryz.func103, Tryz.ntmps103
    go_wp2
    go_ret
    exact ⟨rfl, rfl⟩

set_option maxHeartbeats 1000000 in
theorem l5More_L (v0 : Value) (L : List Int × Nat) (pa : Option Addr) (m pc : Nat) (fs : List Int) (x by_ : Int) (w : World) (B : Nat) (hL : ListE B w v0 L) (hP : PairAt w pa m fs) (hn : L.2 < 1048576) (hB : B ≤ w.heap.size) :
    Calls Tryz.prog 72 #[v0, .slice pa m pc, .int .i64 x, .int .i64 by_] w fun e w' => ∃ v', e = .returned v' ∧ ListE B w' v' (addL L fs m (placeN 3 (classN x)) (max (wrap64 ((readF fs (placeN 3 (classN x)) m).1 + by_)) 0)) ∧ Below w.heap.size w w' := by
  have HL : Hid (ListE B w v0 L ∧ B ≤ w.heap.size) := ⟨hL, hB⟩
  have HP : Hid (PairAt w pa m fs) := hP
  have HN : Hid (L.2 < 1048576) := hn
  clear hL hP hn hB
  obtain ⟨p, hp⟩ : ∃ p, placeN 3 (classN x) = p := ⟨_, rfl⟩
  have HPL : Hid (placeN 3 (classN x) = p) := hp
  clear hp
  rw [HPL.out]
  obtain ⟨⟨r1, r2⟩, hr⟩ : ∃ r, readF fs p m = r := ⟨_, rfl⟩
  have HR : Hid (readF fs p m = (r1, r2)) := hr
  clear hr
  rw [HR.out]
  dsimp only
  obtain ⟨q, hq⟩ : ∃ q, wrap64 (r1 + by_) = q := ⟨_, rfl⟩
  rw [hq]
  go_enter Tryz.func72, Tryz.ntmps72
  go_wp2_with fail
  refine (specClassOf_any x _).mono ?_
  rintro e w1 ⟨rfl, hw1⟩
  rw [hw1]
  clear hw1
  go_wp2_with fail
  refine (specCountAt_any (classN x) _).mono ?_
  rintro e w2 ⟨rfl, hw2⟩
  rw [hw2, HPL.out]
  clear hw2
  go_wp2_with fail
  refine (specRead_any pa m pc p fs _ HP.out).mono ?_
  rintro e w3 ⟨rfl, hb1⟩
  rw [HR.out]
  have HB1 : Hid (Below w.heap.size w w3) := hb1
  clear hb1
  go_wp2_with fail
  refine (l1Max_any q 0 _).mono ?_
  rintro e w4 ⟨rfl, hw4⟩
  rw [hw4]
  clear hw4
  go_wp2_with fail
  refine (l5Add_L v0 L pa m pc fs p (max q 0) _ B (HL.out.1.below HB1.out (Nat.le_refl _)) (HP.out.below HB1.out (Nat.le_refl _)) HN.out (Nat.le_trans HL.out.2 HB1.out.size)).mono ?_
  rintro e w5 ⟨v', rfl, hL2, hb2⟩
  have H2 : Hid (ListE B w5 v' (addL L fs m p (max q 0)) ∧ Below w.heap.size w w5) := ⟨hL2, HB1.out.trans (hb2.mono HB1.out.size)⟩
  clear hL2 hb2
  go_wp2
  go_ret
  exact ⟨v', rfl, H2.out.1, H2.out.2⟩
end Go.Proofs.YtenlapppaimkkaeGreatDoor

/- Lists of entries, number by number (no program). -/
namespace Go.Proofs.YtenlapppaimkkaeGreatDoor
open Go.ChangeShapes Go.WideShapes Go.ChangeAt Go.RowKit

/-- Entries, number by number. -/
def flatE (L : List Ent) : List Int := L.flatMap fun x => [x.1, x.2.1, x.2.2]
theorem flatE_snoc (L : List Ent) (x : Ent) : (flatE L).map I ++ [I x.1, I x.2.1, I x.2.2] = (flatE (L ++ [x])).map I := by simp [flatE]
theorem flatE_len (L : List Ent) : (flatE L).length = L.length * 3 := by
  induction L with
  | nil => rfl
  | cons x t ih => simp only [flatE, List.flatMap_cons, List.length_append, List.length_cons, List.length_nil] at ih ⊢; omega
end Go.Proofs.YtenlapppaimkkaeGreatDoor

/- slices.Collect over a sequence of entries that goes on to its end. -/
namespace Go.Proofs.YtenlapppaimkkaeGreatDoor
open Go.ChangeShapes Go.WideShapes Go.ChangeAt Go.RowKit Go.Shelf
attribute [local go_sem] Oper.semAt_some

set_option maxRecDepth 100000 in
set_option maxHeartbeats 4000000 in
theorem appendSeq_any (g : Nat) (lb : Array Value) (L : List Ent) (w : World) (eg : ∀ args w, (callFunc g args).run Tryz.prog w = .ok (.enter g args) w)
    (hseq : SeqGo Tryz.prog g lb encE (fun _ => true) w.heap.size [34, 60] L (w.alloc (.cells #[.slice none 0 0] 34))) :
    Calls Tryz.prog 91 #[.slice none 0 0, .func (.func g) #[] lb] w fun e w' => ∃ v, e = .returned v ∧ w'.ownsRow w.heap.size 60 3 v L.length ((flatE L).map I) ∧ Below w.heap.size w w' := by
  have HSQ : Hid (SeqGo Tryz.prog g lb encE (fun _ => true) w.heap.size [34, 60] L (w.alloc (.cells #[.slice none 0 0] 34))) := hseq
  clear hseq
  have Z1 : Hid (Below w.heap.size w (w.alloc (.cells #[.slice none 0 0] 34)) ∧ Boxed (w.alloc (.cells #[.slice none 0 0] 34)) w.heap.size 34 (.slice none 0 0)) := ⟨(Below.refl _ _).alloc (Nat.le_refl _) _, Boxed.new w _ _⟩
  refine (callsIn_wide (n := 3)).1 (callsIn_of_wp_marks Tryz.func91 rfl trivial (wpIn_wide.2 ?_) rfl)
  simp only [Tryz.ntmps91, List.size_toArray, List.length_cons, List.length_nil, Nat.reduceAdd, Nat.reduceSub, Array.replicate_succ, Array.replicate_zero, List.push_toArray, List.append_toArray, List.nil_append, List.cons_append]
  go_wp2_with fail
  obtain ⟨i0, hin⟩ : ∃ i, Tryz.prog.info? 60 = some i := ⟨_, rfl⟩
  have hz0 : i0.zero = some (.agg #[.int .i64 0, .int .i64 0, .int .i64 0]) := by cases hin; kernel_rfl
  have hz1 : i0.size = 3 := by cases hin; kernel_rfl
  have hz2 : i0.bytes = 24 := by cases hin; kernel_rfl
  refine wp_rangeFunc_go (gf := g) (lb := lb) rfl eg HSQ.out (by simp) (fun _ => rfl)
    (fun pre W => (∃ v, Boxed W w.heap.size 34 v ∧ W.ownsRow (w.heap.size + 3) 60 3 v pre.length ((flatE pre).map I) ∧ True) ∧ Below w.heap.size w W)
    (fun _ _ => False)
    (OwnFrom.and (Own.from (holdsRow_own (w.heap.size + 3) w.heap.size 34 60 3 (fun pre : List Ent => pre.length) (fun pre => (flatE pre).map I) (fun _ _ => True)) _) (ownFrom_below (Nat.le_refl _) Z1.out.1.size))
    (fun _ _ _ _ h _ _ => h)
    ⟨⟨_, Z1.out.2, ⟨rfl, .inl ⟨rfl, rfl⟩⟩, trivial⟩, Z1.out.1⟩
    (fun x a' W => ∃ Bx, w.heap.size < Bx ∧ Box3 W Bx 60 x ∧ a' = { tmps := #[.slice none 0 0, .func (.func g) #[] lb, .pointer (some ⟨w.heap.size, 0, none⟩), undef, .slice none 0 0, .pointer (some ⟨Bx, 0, none⟩), .func (.func g) #[] lb, .agg #[.int .i64 x.1, .int .i64 x.2.1, .int .i64 x.2.2], undef, undef, undef, undef, undef], defers := [] })
    (fun x a' => Own.from (fun s A B row ⟨Bx, h1, h2, h3⟩ hg hr => ⟨Bx, h1, box3_own _ _ _ () A B row h2 hg hr, h3⟩) _) ?assign ?body ?done ?stop
  case assign =>
    rintro l pre x W K hsz _ ⟨⟨v, hv, hrow, _⟩, hB⟩ hK
    simp only [encE]
    gi_wp2
    exact hK _ _ (World.grownBy_alloc W _ none) ⟨⟨v, hv.alloc _, hrow.alloc _, trivial⟩, hB.alloc hB.size _⟩ ⟨W.heap.size, hv.lt, World.alloc_heap_new W _, rfl⟩
  case body =>
    rintro l pre x a' W hsz hlen ⟨⟨v, hv, hrow, _⟩, hB⟩ ⟨Bx, hBx, bX, rfl⟩
    have x0 : W.cell? ⟨Bx, 0, none⟩ = some (.int .i64 x.1) := by simp [World.cell?, show W.heap[Bx]? = _ from bX]
    have x1 : W.cell? ⟨Bx, 1, none⟩ = some (.int .i64 x.2.1) := by simp [World.cell?, show W.heap[Bx]? = _ from bX]
    have x2 : W.cell? ⟨Bx, 2, none⟩ = some (.int .i64 x.2.2) := by simp [World.cell?, show W.heap[Bx]? = _ from bX]
    have HV : Hid (Boxed W w.heap.size 34 v ∧ W.ownsRow (w.heap.size + 3) 60 3 v pre.length ((flatE pre).map I) ∧ Below w.heap.size w W ∧ w.heap.size + 1 + 1 < W.heap.size ∧ pre.length < 100) := ⟨hv, hrow, hB, by simpa using hsz, hlen⟩
    have v0 := hv.cell
    clear hv hrow hB bX hsz hlen
    gi_wp2_with (gi_at_builtin; refine wpListIn_append_own _ rfl _ _ 34 rfl (w.heap.size + 3) 60 i0 (.agg #[.int .i64 0, .int .i64 0, .int .i64 0]) 3 24 Tryz.underlying34 hin hz0 hz1 hz2 rfl (by decide) _ _ _ rfl (HV.out.2.1.alloc _) ⟨W.heap.size, 0, none⟩ 1 1 [I x.1, I x.2.1, I x.2.2] rfl rfl (cell_three_new _ _ _ _ _) (three_one _ _ _) (by have := HV.out.2.2.2.2; unfold maxLen; omega) (by have := HV.out.2.2.2.2; omega) (by have := HV.out.2.2.2.1; simp; omega) ?_; intro v' w1 hown' hgrow _; obtain ⟨g', cap', rfl⟩ := ownsRow_succ hown'; have hv1 : Boxed w1 w.heap.size 34 v := (HV.out.1.alloc _).kept hgrow (HV.out.1.not_row (by decide) HV.out.2.1); have HW : Hid (w1.ownsRow (w.heap.size + 3) 60 3 (.slice (some ⟨g', 0, none⟩) (pre.length + 1) cap') (pre.length + 1) ((flatE pre).map I ++ [I x.1, I x.2.1, I x.2.2]) ∧ (W.alloc (.cells #[.int .i64 x.1, .int .i64 x.2.1, .int .i64 x.2.2] 60)).grownBy w1 v.ownBlock ∧ Boxed w1 w.heap.size 34 v) := ⟨hown', hgrow, hv1⟩; have hc1 := hv1.cell; have hf1 := hv1.frozen; clear hown' hgrow hv1)
    obtain ⟨hown', hgrow, hv1⟩ := HW.out
    obtain ⟨hv, hrow, hB, hsz, hlen⟩ := HV.out
    have same : ∀ j, j < W.heap.size → j ≠ w.heap.size → some j ≠ v.ownBlock → (w1.setCell ⟨w.heap.size, 0, none⟩ (.slice (some ⟨g', 0, none⟩) (pre.length + 1) cap')).heap[j]? = W.heap[j]? := fun j hj hne ho => by
      have z1 : j < (W.alloc (.cells #[.int .i64 x.1, .int .i64 x.2.1, .int .i64 x.2.2] 60)).heap.size := by simp; omega
      have e1 := hgrow.block j z1 ho
      have z2 : j < w1.heap.size := Nat.lt_of_lt_of_le z1 hgrow.size
      exact ((grownBy_setCell' w1 w.heap.size _).block j z2 (by simpa using hne)).trans (e1.trans (Below.heap_alloc _ _ _ hj))
    have lowown : ∀ j, some j = v.ownBlock → w.heap.size + 3 ≤ j := fun j e => (hrow.lt j e.symm).1
    refine ⟨⟨same _ (by omega) (by omega) (fun e => by have h := lowown _ e; omega), same _ (by omega) (by omega) (fun e => by have h := lowown _ e; omega)⟩, ⟨⟨?_, ?_, ?_, ?_, fun j hj => same j (by have := hB.size; omega) (by omega) (fun e => by have h := lowown _ e; omega)⟩, fun j hj hc => same j hj (fun e => ?_) (fun e => ?_)⟩, ⟨_, hv1.set _, ?_⟩, ?_⟩
    · exact hgrow.os
    · exact hgrow.tape
    · exact hgrow.output
    · exact Nat.le_trans (by simp) (Nat.le_trans hgrow.size (grownBy_setCell' w1 w.heap.size (.slice (some ⟨g', 0, none⟩) (pre.length + 1) cap')).size)
    · subst e
      exact hc _ _ _ hv (by simp)
    · rcases hrow.2 with ⟨rfl, _⟩ | ⟨g, cap, cur, rfl, _, hgb, _⟩
      · simp [Value.ownBlock] at e
      · obtain rfl : j = g := by simpa [Value.ownBlock] using e
        exact hc _ _ _ hgb (by simp)
    · rw [← flatE_snoc]
      exact hown'.kept (grownBy_setCell' w1 w.heap.size _) (.inr (hv1.not_row (by decide) hown').symm)
    · refine hB.trans ⟨hgrow.os, hgrow.tape, hgrow.output, Nat.le_trans (by simp) (Nat.le_trans hgrow.size (grownBy_setCell' w1 w.heap.size (.slice (some ⟨g', 0, none⟩) (pre.length + 1) cap')).size), fun j hj => same j (by have := hB.size; omega) (by omega) (fun e => by have h := lowown _ e; omega)⟩
  case done =>
    rintro W hall ⟨⟨v, hv, hrow, _⟩, hB⟩ hK
    have HI : Hid (Boxed W w.heap.size 34 v ∧ W.ownsRow (w.heap.size + 3) 60 3 v L.length ((flatE L).map I) ∧ Below w.heap.size w W ∧ W.heap[(w.alloc (.cells #[.slice none 0 0] 34)).heap.size]? = some (.deferred (some []))) := ⟨hv, hrow, hB, hK⟩
    have v0 := hv.cell
    clear hv hrow hB hK hall
    go_wp2
    refine ⟨by simp, .inl ⟨_, _, rfl, run_takeDeferred HI.out.2.2.2, ?_⟩⟩
    refine ⟨v, by simp [results, Tryz.f91, go_sem], v, rfl, own_weaken (ownsRow_putObj HI.out.2.1 _ HI.out.2.2.2 rfl) (by omega), HI.out.2.2.1.trans ((Below.refl _ W).grown (grownBy_putObj' W _ _) HI.out.2.2.1.size (fun k e => by cases e; simp))⟩
  case stop =>
    rintro pre x rest W _ _ e3
    cases e3

set_option maxHeartbeats 1000000 in
theorem collect_any (g : Nat) (lb : Array Value) (L : List Ent) (w : World) (eg : ∀ args w, (callFunc g args).run Tryz.prog w = .ok (.enter g args) w)
    (hseq : SeqGo Tryz.prog g lb encE (fun _ => true) w.heap.size [34, 60] L (w.alloc (.cells #[.slice none 0 0] 34))) :
    Calls Tryz.prog 62 #[.func (.func g) #[] lb] w fun e w' => ∃ v, e = .returned v ∧ w'.ownsRow w.heap.size 60 3 v L.length ((flatE L).map I) ∧ Below w.heap.size w w' := by
  have H := appendSeq_any g lb L w eg hseq
  have HH : Hid (Calls Tryz.prog 91 #[.slice none 0 0, .func (.func g) #[] lb] w fun e w' => ∃ v, e = .returned v ∧ w'.ownsRow w.heap.size 60 3 v L.length ((flatE L).map I) ∧ Below w.heap.size w w') := H
  clear H hseq eg
  go_enter Tryz.func62, Tryz.ntmps62
  go_wp2_with fail
  refine HH.out.mono ?_
  rintro e w' ⟨v, rfl, h1, h2⟩
  have H2 : Hid (w'.ownsRow w.heap.size 60 3 v L.length ((flatE L).map I) ∧ Below w.heap.size w w') := ⟨h1, h2⟩
  clear h1 h2
  go_wp2
  go_ret
  exact ⟨v, rfl, H2.out.1, H2.out.2⟩
end Go.Proofs.YtenlapppaimkkaeGreatDoor

/- The library's sort at this translation: that its functions are the ones that the kit's contracts speak of. -/
namespace Go.Proofs
open Go.Shelf
def Tryz.sortE_ren : Go.Shelf.Ren := ⟨fun | 6 => 63 | 15 => 93 | 14 => 92 | 28 => 115 | 29 => 116 | 20 => 107 | 21 => 108 | 22 => 109 | 23 => 110 | 24 => 111 | 25 => 112 | 26 => 113 | 27 => 114 | 46 => 121 | 47 => 122 | 48 => 123 | 49 => 124 | 50 => 125 | 57 => 126 | n => n, fun | 22 => 34 | 24 => 60 | 25 => 64 | 3 => 3 | 39 => 128 | 0 => 0 | 53 => 144 | 55 => 146 | 4 => 4 | 46 => 138 | 45 => 137 | 50 => 65 | 5 => 5 | 9 => 9 | 66 => 148 | 70 => 152 | 76 => 154 | 77 => 155 | n => n, fun | n => n⟩
theorem Tryz.sortE : Go.Proofs.SlLaysF0.n6 Tryz.prog Tryz.sortE_ren := {
  mixed := by kernel_rfl
  f6 := ⟨Tryz.f63.name, by decide, Tryz.func63.trans (congrArg some (by kernel_rfl))⟩
  f14 := ⟨Tryz.f92.name, by decide, Tryz.func92.trans (congrArg some (by kernel_rfl))⟩
  f15 := Tryz.func93.trans (congrArg some (by kernel_rfl))
  f20 := ⟨Tryz.f107.name, by decide, Tryz.func107.trans (congrArg some (by kernel_rfl))⟩
  f21 := ⟨Tryz.f108.name, by decide, Tryz.func108.trans (congrArg some (by kernel_rfl))⟩
  f22 := ⟨Tryz.f109.name, by decide, Tryz.func109.trans (congrArg some (by kernel_rfl))⟩
  f23 := ⟨Tryz.f110.name, by decide, Tryz.func110.trans (congrArg some (by kernel_rfl))⟩
  f24 := ⟨Tryz.f111.name, by decide, Tryz.func111.trans (congrArg some (by kernel_rfl))⟩
  f25 := ⟨Tryz.f112.name, by decide, Tryz.func112.trans (congrArg some (by kernel_rfl))⟩
  f26 := ⟨Tryz.f113.name, by decide, Tryz.func113.trans (congrArg some (by kernel_rfl))⟩
  f27 := ⟨Tryz.f114.name, by decide, Tryz.func114.trans (congrArg some (by kernel_rfl))⟩
  f28 := Tryz.func115.trans (congrArg some (by kernel_rfl))
  f29 := Tryz.func116.trans (congrArg some (by kernel_rfl))
  f46 := ⟨Tryz.f121.name, by decide, Tryz.func121.trans (congrArg some (by kernel_rfl))⟩
  f47 := Tryz.func122.trans (congrArg some (by kernel_rfl))
  f48 := Tryz.func123.trans (congrArg some (by kernel_rfl))
  f49 := ⟨Tryz.f124.name, by decide, Tryz.func124.trans (congrArg some (by kernel_rfl))⟩
  f50 := ⟨Tryz.f125.name, by decide, Tryz.func125.trans (congrArg some (by kernel_rfl))⟩
  f57 := ⟨Tryz.f126.name, by decide, Tryz.func126.trans (congrArg some (by kernel_rfl))⟩
  t0 := Tryz.underlying0
  a0 := Tryz.isAgg0
  z0 := Tryz.sizeOf0
  v0 := Tryz.zeroValue0
  t3 := Tryz.underlying3
  a3 := Tryz.isAgg3
  z3 := Tryz.sizeOf3
  v3 := Tryz.zeroValue3
  t4 := Tryz.underlying4
  a4 := Tryz.isAgg4
  z4 := Tryz.sizeOf4
  v4 := Tryz.zeroValue4
  t5 := Tryz.underlying5
  a5 := Tryz.isAgg5
  z5 := Tryz.sizeOf5
  v5 := Tryz.zeroValue5
  t9 := Tryz.underlying9
  a9 := Tryz.isAgg9
  z9 := Tryz.sizeOf9
  v9 := Tryz.zeroValue9
  t22 := Tryz.underlying34
  a22 := Tryz.isAgg34
  z22 := Tryz.sizeOf34
  v22 := Tryz.zeroValue34
  t25 := Tryz.underlying64
  a25 := Tryz.isAgg64
  z25 := Tryz.sizeOf64
  v25 := Tryz.zeroValue64
  t39 := Tryz.underlying128
  a39 := Tryz.isAgg128
  z39 := Tryz.sizeOf128
  v39 := Tryz.zeroValue128
  t45 := Tryz.underlying137
  a45 := Tryz.isAgg137
  z45 := Tryz.sizeOf137
  v45 := Tryz.zeroValue137
  t46 := Tryz.underlying138
  a46 := Tryz.isAgg138
  z46 := Tryz.sizeOf138
  v46 := Tryz.zeroValue138
  t50 := Tryz.underlying65
  a50 := Tryz.isAgg65
  z50 := Tryz.sizeOf65
  v50 := Tryz.zeroValue65
  t53 := Tryz.underlying144
  a53 := Tryz.isAgg144
  z53 := Tryz.sizeOf144
  v53 := Tryz.zeroValue144
  t55 := Tryz.underlying146
  a55 := Tryz.isAgg146
  z55 := Tryz.sizeOf146
  v55 := Tryz.zeroValue146
  t66 := Tryz.underlying148
  a66 := Tryz.isAgg148
  z66 := Tryz.sizeOf148
  v66 := Tryz.zeroValue148
  t70 := Tryz.underlying152
  a70 := Tryz.isAgg152
  z70 := Tryz.sizeOf152
  v70 := Tryz.zeroValue152
  t76 := Tryz.underlying154
  a76 := Tryz.isAgg154
  z76 := Tryz.sizeOf154
  v76 := Tryz.zeroValue154
  t77 := Tryz.underlying155
  a77 := Tryz.isAgg155
  z77 := Tryz.sizeOf155
  v77 := Tryz.zeroValue155 }
def Tryz.cmpI_ren : Go.Shelf.Ren := ⟨fun | 5 => 67 | 7 => 102 | n => n, fun | 22 => 3 | 3 => 3 | 4 => 4 | n => n, fun | n => n⟩
theorem Tryz.cmpI : Go.Proofs.SlLaysC2.n5 Tryz.prog Tryz.cmpI_ren := {
  mixed := by kernel_rfl
  f5 := ⟨Tryz.f67.name, by decide, Tryz.func67.trans (congrArg some (by kernel_rfl))⟩
  f7 := ⟨Tryz.f102.name, by decide, Tryz.func102.trans (congrArg some (by kernel_rfl))⟩
  t3 := Tryz.underlying3
  a3 := Tryz.isAgg3
  z3 := Tryz.sizeOf3
  v3 := Tryz.zeroValue3
  t4 := Tryz.underlying4
  a4 := Tryz.isAgg4
  z4 := Tryz.sizeOf4
  v4 := Tryz.zeroValue4
  t22 := Tryz.underlying3
  a22 := Tryz.isAgg3
  z22 := Tryz.sizeOf3
  v22 := Tryz.zeroValue3 }
def Tryz.bitsL_ren : Go.Shelf.Ren := ⟨fun | 125 => 93 | 128 => 115 | 129 => 116 | n => n, fun | 46 => 128 | 3 => 3 | 51 => 144 | 53 => 146 | 4 => 4 | 5 => 5 | 9 => 9 | n => n, fun | n => n⟩
theorem Tryz.bitsL : Go.Proofs.Lays.n125 Tryz.prog Tryz.bitsL_ren := {
  mixed := by kernel_rfl
  f125 := Tryz.func93.trans (congrArg some (by kernel_rfl))
  f128 := Tryz.func115.trans (congrArg some (by kernel_rfl))
  f129 := Tryz.func116.trans (congrArg some (by kernel_rfl))
  t3 := Tryz.underlying3
  a3 := Tryz.isAgg3
  z3 := Tryz.sizeOf3
  v3 := Tryz.zeroValue3
  t4 := Tryz.underlying4
  a4 := Tryz.isAgg4
  z4 := Tryz.sizeOf4
  v4 := Tryz.zeroValue4
  t5 := Tryz.underlying5
  a5 := Tryz.isAgg5
  z5 := Tryz.sizeOf5
  v5 := Tryz.zeroValue5
  t9 := Tryz.underlying9
  a9 := Tryz.isAgg9
  z9 := Tryz.sizeOf9
  v9 := Tryz.zeroValue9
  t46 := Tryz.underlying128
  a46 := Tryz.isAgg128
  z46 := Tryz.sizeOf128
  v46 := Tryz.zeroValue128
  t51 := Tryz.underlying144
  a51 := Tryz.isAgg144
  z51 := Tryz.sizeOf144
  v51 := Tryz.zeroValue144
  t53 := Tryz.underlying146
  a53 := Tryz.isAgg146
  z53 := Tryz.sizeOf146
  v53 := Tryz.zeroValue146 }
end Go.Proofs

/- slices.SortFunc over entries by their place, at twelve of them or fewer. -/
namespace Go.Proofs.YtenlapppaimkkaeGreatDoor
open Go.ChangeShapes Go.WideShapes Go.ChangeAt Go.RowKit Go.Shelf Go.Sort

def encK (x : Ent) : List Value := [I x.1, I x.2.1, I x.2.2]
/-- How two entries stand: by their place. -/
def cfE (x y : Ent) : Int := Lib.compareInt x.1 y.1

set_option maxHeartbeats 1000000 in
theorem byPlace_any (x y : Ent) (W : World) : Calls Tryz.prog 24 #[.agg #[I x.1, I x.2.1, I x.2.2], .agg #[I y.1, I y.2.1, I y.2.2]] W fun e w' => e = .returned (.int .i64 (cfE x y)) ∧ ∃ q os', w' = grow (W.drewN q) os' := by
  have hcon := fun W' => AnyG.cmp_Compare_int Tryz.cmpI x.1 y.1 W'
  change ∀ W', Calls Tryz.prog 67 _ _ _ at hcon
  unfold cfE
  generalize Lib.compareInt x.1 y.1 = r at hcon ⊢
  go_enter Tryz.func24, Tryz.ntmps24
  go_wp2_with (go_at_call 67; refine (hcon _).mono ?_; rintro e w' ⟨rfl, rfl⟩)
  go_ret
  exact ⟨rfl, 0, _, by rw [alloc_eq_grow, alloc_eq_grow, grow_grow]; rfl⟩
theorem hlen12 (n : Nat) (W : World) (h : n ≤ 12) : Calls Tryz.prog 93 #[.int .u64 n] W fun e w' => (∃ l : Int, e = .returned (.int .i64 l)) ∧ w' = W :=
  (Any.bits_Len Tryz.bitsL n W (by omega) (by omega)).mono fun _ _ ⟨he, hw⟩ => ⟨⟨_, he⟩, hw⟩

/-- The entries as they lie there behind the sort. -/
def sortL (L : List Ent) : List Ent := (Sort.insertionSort (ltOf cfE) L.toArray 0 L.length).toList
theorem ltE (x y : Ent) : ltOf cfE x y = decide (x.1 < y.1) := by
  unfold ltOf cfE Lib.compareInt
  by_cases h1 : x.1 < y.1
  · simp [h1]
  · by_cases h2 : y.1 < x.1 <;> simp [h1, h2]
theorem swoE : SWO (ltOf cfE) where
  irrefl x := by rw [ltE]; simp
  trans x y z h1 h2 := by rw [ltE] at *; simp at *; omega
  ntrans x y z h1 h2 := by rw [ltE] at *; simp at *; omega
theorem sortL_holds (L : List Ent) : PermIn 0 L.toArray.size L.toArray (Sort.insertionSort (ltOf cfE) L.toArray 0 L.length) ∧ SortedIn (ltOf cfE) 0 L.toArray.size (Sort.insertionSort (ltOf cfE) L.toArray 0 L.length) := by
  have h := insertionSort_holds (lt := ltOf cfE) swoE L.toArray 0 L.toArray.size (Nat.zero_le _) (Nat.le_refl _)
  simpa using h
theorem sortL_perm (L : List Ent) : (sortL L).Perm L := by
  have h := (sortL_holds L).1
  have h1 := h.1
  have h2 := h.2.2
  unfold sortL
  rw [Array.extract_eq_self_of_le (by omega), Array.extract_eq_self_of_le (Nat.le_refl _)] at h2
  simpa using h2
theorem sortL_len (L : List Ent) : (sortL L).length = L.length := (sortL_perm L).length_eq

theorem getD_flatE : ∀ (L : List Ent) (i : Nat), i < L.length → ∀ c, c < 3 → (flatE L).getD (i * 3 + c) 0 = ([(L.getD i (0, 0, 0)).1, (L.getD i (0, 0, 0)).2.1, (L.getD i (0, 0, 0)).2.2] : List Int).getD c 0
  | [], i, h, _, _ => by simp at h
  | x :: t, 0, _, c, hc => by
    rcases c with _ | _ | _ | c
    · simp [flatE]
    · simp [flatE]
    · simp [flatE]
    · omega
  | x :: t, i + 1, h, c, hc => by
    have e := getD_flatE t i (by simpa using h) c hc
    rw [show (i + 1) * 3 + c = i * 3 + c + 1 + 1 + 1 by omega]
    simpa [flatE] using e
theorem flatK_get (L : List Ent) (j : Nat) (hj : j < L.length * 3) : (flatK encK 3 L.toArray)[j]! = I ((flatE L).getD j 0) := by
  rw [get_flatK _ _ _ _ (by simpa using hj)]
  have hi : j / 3 < L.length := by omega
  have e := getD_flatE L (j / 3) hi (j % 3) (by omega)
  rw [show j / 3 * 3 + j % 3 = j by omega] at e
  rw [e]
  have e1 : L.toArray[j / 3]! = L.getD (j / 3) (0, 0, 0) := by
    rw [getElem!_pos _ _ (by simpa using hi), List.getD_eq_getElem?_getD, List.getElem?_eq_getElem hi]; simp
  rw [e1]
  have hm : j % 3 = 0 ∨ j % 3 = 1 ∨ j % 3 = 2 := by omega
  rcases hm with hm | hm | hm <;> rw [hm] <;> rfl

set_option maxHeartbeats 1000000 in
theorem sortE_any (base g cap : Nat) (L : List Ent) (w : World) (h : w.ownsRow base 60 3 (.slice (some ⟨g, 0, none⟩) L.length cap) L.length ((flatE L).map I)) (hL : L.length ≤ 12) :
    Calls Tryz.prog 63 #[.slice (some ⟨g, 0, none⟩) L.length cap, .func (.func 24) #[] #[]] w fun e w' => e = .returned (.tuple #[]) ∧ EntAt w' (some ⟨g, 0, none⟩) L.length (flatE (sortL L)) ∧ Below g w w' := by
  have hg : g < w.heap.size := (h.lt g rfl).2
  have hH : HoldsK encK 3 w g 0 L.toArray := by
    intro j hj
    rw [size_flatK] at hj
    have hj' : j < L.length * 3 := by simpa using hj
    rw [flatK_get L j hj', Nat.zero_add]
    refine ⟨?_, h.frozenAt j⟩
    rw [h.cellAt j hj', List.getElem?_map, List.getElem?_eq_getElem (by rw [flatE_len]; exact hj')]
    simp [List.getD, show j < (flatE L).length by rw [flatE_len]; exact hj']
  have eg : ∀ args w, (callFunc 24 args).run Tryz.prog w = .ok (.enter 24 args) w := enters_of Tryz.func24 (by kernel_rfl) rfl
  have hcon := AnyQ.slices_SortFunc_small Tryz.sortE 3 Tryz.isAgg60 Tryz.sizeOf60 encK (fun _ => rfl) (fun x v hv => by simp [encK] at hv; rcases hv with rfl | rfl | rfl <;> rfl) cfE 24 #[] g 0 cap L.toArray w eg (fun _ _ _ _ x y => byPlace_any x y _) hH hg (by simpa using hL) hlen12
  change Calls Tryz.prog 63 _ _ _ at hcon
  rw [show L.toArray.size = L.length by simp] at hcon
  refine hcon.mono ?_
  rintro e w' ⟨rfl, n, os, rfl⟩
  have hsz : (Sort.insertionSort (ltOf cfE) L.toArray 0 L.length).size = L.toArray.size := (sortL_holds L).1.1
  have hK := holdsK_sortWorldK_c encK 3 w g 0 L.toArray (Sort.insertionSort (ltOf cfE) L.toArray 0 L.length) n os hH hg hsz
  refine ⟨rfl, ⟨by rw [flatE_len, sortL_len], by omega, .inr ⟨g, 0, rfl, fun i hi => ?_⟩⟩, ⟨rfl, rfl, rfl, size_sortWorldK_c encK 3 w g 0 n _ os, fun k hk => ?_⟩⟩
  · have e := (hK i (by rw [size_flatK, hsz]; simpa using hi)).1
    rw [e]
    have e2 : Sort.insertionSort (ltOf cfE) L.toArray 0 L.length = (sortL L).toArray := by unfold sortL; simp
    rw [e2]
    exact congrArg some (flatK_get (sortL L) i (by rw [sortL_len]; exact hi))
  · unfold sortWorldK
    rw [heap_grow_old _ _ (by simp [putRowK, putRow, mapBlock]; exact Nat.lt_trans hk hg)]
    simp only [putRowK, putRow, mapBlock, Array.getElem?_modify]
    rw [if_neg (by omega)]
    rfl
end Go.Proofs.YtenlapppaimkkaeGreatDoor

/- slices.SortedFunc over the words of an op that were read. -/
namespace Go.Proofs.YtenlapppaimkkaeGreatDoor
open Go.ChangeShapes Go.WideShapes Go.ChangeAt Go.RowKit Go.Shelf

set_option maxHeartbeats 1000000 in
theorem sortedFunc_any (g : Nat) (lb : Array Value) (L : List Ent) (w : World) (eg : ∀ args w, (callFunc g args).run Tryz.prog w = .ok (.enter g args) w)
    (hseq : SeqGo Tryz.prog g lb encE (fun _ => true) w.heap.size [34, 60] L (w.alloc (.cells #[.slice none 0 0] 34))) (h0 : 0 < L.length) (hL : L.length ≤ 12) :
    Calls Tryz.prog 22 #[.func (.func g) #[] lb, .func (.func 24) #[] #[]] w fun e w' => ∃ q cap, e = .returned (.slice (some ⟨q, 0, none⟩) L.length cap) ∧ w.heap.size ≤ q ∧ EntAt w' (some ⟨q, 0, none⟩) L.length (flatE (sortL L)) ∧ Below w.heap.size w w' := by
  have HH : Hid (Calls Tryz.prog 62 #[.func (.func g) #[] lb] w fun e w' => ∃ v, e = .returned v ∧ w'.ownsRow w.heap.size 60 3 v L.length ((flatE L).map I) ∧ Below w.heap.size w w') := collect_any g lb L w eg hseq
  have HL : Hid (0 < L.length ∧ L.length ≤ 12) := ⟨h0, hL⟩
  clear hseq eg h0 hL
  go_enter Tryz.func22, Tryz.ntmps22
  go_wp2_with fail
  refine HH.out.mono ?_
  rintro e w' ⟨v, rfl, h1, h2⟩
  obtain ⟨q, cap, rfl⟩ : ∃ q cap, v = .slice (some ⟨q, 0, none⟩) L.length cap := by
    rcases h1.2 with ⟨_, h⟩ | ⟨q, cap, _, e, _⟩
    · have := HL.out.1; omega
    · exact ⟨q, cap, e⟩
  have H2 : Hid (w'.ownsRow w.heap.size 60 3 (.slice (some ⟨q, 0, none⟩) L.length cap) L.length ((flatE L).map I) ∧ Below w.heap.size w w') := ⟨h1, h2⟩
  clear h1 h2
  go_wp2_with fail
  refine (sortE_any w.heap.size q cap L _ H2.out.1 HL.out.2).mono ?_
  rintro e w2 ⟨rfl, h3, h4⟩
  have hq := (H2.out.1.lt q rfl).1
  have H3 : Hid (EntAt w2 (some ⟨q, 0, none⟩) L.length (flatE (sortL L)) ∧ Below w.heap.size w w2 ∧ w.heap.size ≤ q) := ⟨h3, H2.out.2.trans (h4.mono hq), hq⟩
  clear h3 h4 hq
  go_wp2
  go_ret
  exact ⟨q, cap, rfl, H3.out.2.2, H3.out.1, H3.out.2.1⟩
end Go.Proofs.YtenlapppaimkkaeGreatDoor
