/- Texts joined: NowOf. -/
import Derived.Test.YtenlapppaimkkabGreatDoorPL02
import Derived.Test.YtenlapppaimkkabGreatDoorPL03
import Derived.Test.YtenlapppaimkkabGreatDoorPL04
import Derived.Deep.RegionHeld3
set_option maxHeartbeats 2000000
set_option maxRecDepth 100000
namespace Go.Proofs.YtenlapppaimkkabGreatDoor
section
open Go.ChangeShapes Go.WideShapes Go.ChangeAt Go.RowKit
def ifV (b : Bool) (x : Int × Value) : List (Int × Value) := if b = true then [x] else []
theorem app_len {L : List (Int × Value)} {b : Bool} {x : Int × Value} {m : Nat} (h : L.length ≤ m) : (L ++ ifV b x).length ≤ m + 1 := by
  cases b <;> simp [ifV] <;> omega
theorem or_if (base : Nat) (W0 : World) (b : Bool) (code : Int) (a : Option Addr) (n c : Nat) (v : Value) (L : List (Int × Value)) (w : World) (h : ComAt w base v L) (hL : L.length ≤ 3) (hbl : Below base W0 w) (hs : base ≤ W0.heap.size) :
    Calls Tryz.prog 65 #[v, .bool b, .int .i64 code, .slice a n c] w fun e w' => ∃ v', e = .returned v' ∧ ComAt w' base v' (L ++ ifV b (code, .slice a n c)) ∧ w.grownBy w' v.ownBlock ∧ Below base W0 w' := by
  cases b with
  | true => exact or_on base W0 code a n c v L w h hL hbl hs
  | false =>
    refine (or_no code a n c v w).mono ?_
    rintro e w' ⟨rfl, rfl⟩
    exact ⟨v, rfl, by rw [show ifV false (code, Value.slice a n c) = [] from rfl, List.append_nil]; exact h, ⟨rfl, rfl, rfl, Nat.le_refl _, fun _ _ _ => rfl⟩, hbl⟩
def ifL (b : Bool) (x : Int × List Int) : List (Int × List Int) := if b = true then [x] else []
theorem tells_if (w : World) (b : Bool) (k : Int) : TellsAs w (ifV b (k, .slice none 0 0)) (ifL b (k, [])) := by
  cases b with
  | true => exact tells_1 w k
  | false => exact trivial
theorem tells_app {w : World} : ∀ {L L' : List (Int × Value)} {M M' : List (Int × List Int)}, TellsAs w L M → TellsAs w L' M' → TellsAs w (L ++ L') (M ++ M')
  | [], _, [], _, _, h => h
  | [], _, _ :: _, _, h, _ => h.elim
  | _ :: _, _, [], _, h, _ => h.elim
  | _ :: _, _, _ :: _, _, h, h' => ⟨h.1, tells_app h.2 h'⟩
def News (B : Nat) (L : List (Int × Value)) : Prop := ∀ r ∈ L, ∀ q n c, r.2 = .slice (some q) n c → B ≤ q.block
theorem news_nil (B : Nat) : News B [] := fun r h => by cases h
theorem news_if (B : Nat) (b : Bool) (k : Int) : News B (ifV b (k, .slice none 0 0)) := fun r h q n c e => by
  cases b with
  | false => cases h
  | true =>
    simp [ifV] at h
    rw [h] at e
    cases e
theorem news_told {B g m d : Nat} (hg : B ≤ g) (b : Bool) (k : Int) : News B (ifV b (k, .slice (some ⟨g, 0, none⟩) m d)) := fun r h q n c e => by
  cases b with
  | false => cases h
  | true =>
    simp [ifV] at h
    rw [h] at e
    cases e
    exact hg
theorem news_app {B : Nat} {L L' : List (Int × Value)} (h : News B L) (h' : News B L') : News B (L ++ L') := fun r hr => by
  rcases List.mem_append.1 hr with hr | hr
  · exact h r hr
  · exact h' r hr
def ComNew (e : Ending) (w w' : World) (LL : List (Int × List Int)) : Prop :=
  ∃ (v : Value) (L : List (Int × Value)), e = .returned v ∧ ComAt w' w.heap.size v L ∧ TellsAs w' L LL ∧ News w.heap.size L
def nowL (fs : List Int) (n : Nat) (kind k v : Int) : List (Int × List Int) :=
  let r := rd fs n (placeN 1 k)
  let o := rd fs n (placeN 2 v)
  let s := rd fs n 13
  if kind = 1 then ifL (r != 0) (1, []) ++ ifL (o != 0) (2, [])
  else if kind = 2 then ifL (r == 0) (3, []) ++ ifL (r == v) (0, []) ++ ifL (o != 0) (2, [])
  else if kind = 3 then ifL (r == 0) (3, [])
  else if kind = 4 then ifL (r == 0) (3, []) ++ [(0, [r])]
  else if kind = 5 then ifL (o == 0) (3, []) ++ [(0, [wrap64 (o - 1)])]
  else if kind = 6 then [(0, [rd fs n (placeN 3 k)])]
  else if kind = 7 then []
  else if kind = 8 then ifL (s != 0) (4, [])
  else if kind = 9 then ifL (s == 0 || decide (4 < s)) (4, [])
  else ifL (s != 5) (4, [])
theorem nowL_1 (fs : List Int) (n : Nat) (k v : Int) : nowL fs n 1 k v = ifL (rd fs n (placeN 1 k) != 0) (1, []) ++ ifL (rd fs n (placeN 2 v) != 0) (2, []) := by
  unfold nowL
  rw [if_pos rfl]
theorem nowL_2 (fs : List Int) (n : Nat) (k v : Int) : nowL fs n 2 k v = ifL (rd fs n (placeN 1 k) == 0) (3, []) ++ ifL (rd fs n (placeN 1 k) == v) (0, []) ++ ifL (rd fs n (placeN 2 v) != 0) (2, []) := by
  unfold nowL
  rw [if_neg (by decide), if_pos rfl]
theorem nowL_3 (fs : List Int) (n : Nat) (k v : Int) : nowL fs n 3 k v = ifL (rd fs n (placeN 1 k) == 0) (3, []) := by
  unfold nowL
  rw [if_neg (by decide), if_neg (by decide), if_pos rfl]
theorem nowL_4 (fs : List Int) (n : Nat) (k v : Int) : nowL fs n 4 k v = ifL (rd fs n (placeN 1 k) == 0) (3, []) ++ [(0, [rd fs n (placeN 1 k)])] := by
  unfold nowL
  rw [if_neg (by decide), if_neg (by decide), if_neg (by decide), if_pos rfl]
theorem nowL_5 (fs : List Int) (n : Nat) (k v : Int) : nowL fs n 5 k v = ifL (rd fs n (placeN 2 v) == 0) (3, []) ++ [(0, [wrap64 (rd fs n (placeN 2 v) - 1)])] := by
  unfold nowL
  rw [if_neg (by decide), if_neg (by decide), if_neg (by decide), if_neg (by decide), if_pos rfl]
theorem nowL_6 (fs : List Int) (n : Nat) (k v : Int) : nowL fs n 6 k v = [(0, [rd fs n (placeN 3 k)])] := by
  unfold nowL
  rw [if_neg (by decide), if_neg (by decide), if_neg (by decide), if_neg (by decide), if_neg (by decide), if_pos rfl]
theorem nowL_7 (fs : List Int) (n : Nat) (k v : Int) : nowL fs n 7 k v = [] := by
  unfold nowL
  rw [if_neg (by decide), if_neg (by decide), if_neg (by decide), if_neg (by decide), if_neg (by decide), if_neg (by decide), if_pos rfl]
theorem nowL_8 (fs : List Int) (n : Nat) (k v : Int) : nowL fs n 8 k v = ifL (rd fs n 13 != 0) (4, []) := by
  unfold nowL
  rw [if_neg (by decide), if_neg (by decide), if_neg (by decide), if_neg (by decide), if_neg (by decide), if_neg (by decide), if_neg (by decide), if_pos rfl]
theorem nowL_9 (fs : List Int) (n : Nat) (k v : Int) : nowL fs n 9 k v = ifL (rd fs n 13 == 0 || decide (4 < rd fs n 13)) (4, []) := by
  unfold nowL
  rw [if_neg (by decide), if_neg (by decide), if_neg (by decide), if_neg (by decide), if_neg (by decide), if_neg (by decide), if_neg (by decide), if_neg (by decide), if_pos rfl]
theorem nowL_10 (fs : List Int) (n : Nat) (k v : Int) : nowL fs n 10 k v = ifL (rd fs n 13 != 5) (4, []) := by
  unfold nowL
  rw [if_neg (by decide), if_neg (by decide), if_neg (by decide), if_neg (by decide), if_neg (by decide), if_neg (by decide), if_neg (by decide), if_neg (by decide), if_neg (by decide)]
theorem told_one {W w4 : World} {v : Value} {base : Nat} {L : List (Int × Value)} {x : Int} (hc : ComAt W base v L) (hg : (W.alloc (.cells #[.int .i64 x] 3)).grownBy w4 v.ownBlock) : IntAt w4 (some ⟨W.heap.size, 0, none⟩) 1 [x] := by
  refine one_at ?_
  rw [World.cell?_of_block (hg.block W.heap.size (by simp) (fun e => by have h := (hc.lt _ e.symm).2; omega))]
  simp
theorem told_one_below {W w4 : World} {v : Value} {base : Nat} {L : List (Int × Value)} {x : Int} (hc : ComAt W base v L) (hb : (W.alloc (.cells #[.int .i64 x] 3)).grownBy w4 v.ownBlock) : TellsAs w4 [(0, .slice (some ⟨W.heap.size, 0, none⟩) 1 1)] [(0, [x])] := tells_l (told_one hc hb) 0
theorem com_kept {W W' : World} {base : Nat} {v : Value} {L : List (Int × Value)} (h : ComAt W base v L) (hb : Below W.heap.size W W') : ComAt W' base v L :=
  h.kept (row := none) (far_below hb none) (by cases hv : v.ownBlock with
    | none => exact .inl rfl
    | some j => exact .inr (by simp))

theorem implNow_3 (a : Option Addr) (n c : Nat) (k v : Int) (fs : List Int) (w : World) (hB : Base w a n fs) :
    Calls Tryz.prog 23 #[.iface 95 (OpV 3 k v), .slice a n c] w fun e w' => ComNew e w w' (nowL fs n 3 k v) ∧ Below w.heap.size w w' := by
  have HB : Hid (Base w a n fs) := hB
  clear hB
  have t1 : ∀ w : World, (Instr.typeAssert (.iface 95 (OpV 3 k v)) 56 93 true).run Tryz.prog w = .ok (.tuple #[OpV 0 0 0, .bool false]) w := fun w => by kernel_rfl
  have t2 : ∀ w : World, (Instr.typeAssert (.iface 95 (OpV 3 k v)) 56 94 true).run Tryz.prog w = .ok (.tuple #[OpV 0 0 0, .bool false]) w := fun w => by kernel_rfl
  have t3 : ∀ w : World, (Instr.typeAssert (.iface 95 (OpV 3 k v)) 56 95 true).run Tryz.prog w = .ok (.tuple #[OpV 3 k v, .bool true]) w := fun w => by kernel_rfl
  have LO0 : Hid (Below w.heap.size w w) := Below.refl _ _
  have LO1 : Hid (Below w.heap.size w (w.alloc (.cells #[.int .i64 3, .int .i64 k, .int .i64 v] 95))) := LO0.out.alloc LO0.out.size _
  obtain ⟨r, hr⟩ : ∃ x, rd fs n (placeN 1 k) = x := ⟨_, rfl⟩
  have HR : Hid (rd fs n (placeN 1 k) = r) := hr
  clear hr
  have LO2 : Hid (Below w.heap.size w ((w.alloc (.cells #[.int .i64 3, .int .i64 k, .int .i64 v] 95)).alloc (.cells #[] 33))) := LO1.out.alloc LO1.out.size _
  have C2 : Hid (ComAt ((w.alloc (.cells #[.int .i64 3, .int .i64 k, .int .i64 v] 95)).alloc (.cells #[] 33)) w.heap.size (.slice (some ⟨w.heap.size + 1, 0, none⟩) 0 0) []) := com_empty_at (by simp) (by have h := LO1.out.size; (try simp at h); omega)
  go_enter Tryz.func23, Tryz.ntmps23
  go_wp2_with fail
  (try simp only [World.size_alloc])
  refine (knownRow_any a n c k fs _ (HB.out.on LO2.out).names (HB.out.on LO2.out).pairs).mono ?_
  rintro e w3 ⟨rfl, hb⟩
  have LO3 : Hid (Below w.heap.size w w3) := LO2.out.trans (hb.mono LO2.out.size)
  have C3 : Hid (ComAt w3 w.heap.size (.slice (some ⟨w.heap.size + 1, 0, none⟩) 0 0) ([])) := com_kept C2.out hb
  clear hb
  rw [HR.out]
  go_wp2_with fail
  (try simp only [World.size_alloc])
  refine (or_if w.heap.size w (r == 0) 3 _ _ _ (.slice (some ⟨w.heap.size + 1, 0, none⟩) 0 0) ([]) _ (by first | exact C3.out | (simpa using C3.out)) (Nat.le_trans (Nat.le_refl 0) (by decide)) LO3.out (Nat.le_refl _)).mono ?_
  rintro e w4 ⟨v4, rfl, hc, hg, hb⟩
  have C4 : Hid (ComAt w4 w.heap.size v4 (([]) ++ ifV (r == 0) ((3 : Int), (.slice none 0 0 : Value)))) := hc
  have LO4 : Hid (Below w.heap.size w w4) := hb
  have G4 : Hid _ := hg
  clear hc hg hb
  go_wp2
  go_ret
  exact ⟨⟨_, _, rfl, C4.out, by rw [nowL_3, HR.out]; exact tells_if _ _ _, news_app (news_nil _) (news_if _ _ _)⟩, LO4.out⟩

theorem implNow_4 (a : Option Addr) (n c : Nat) (k v : Int) (fs : List Int) (w : World) (hB : Base w a n fs) :
    Calls Tryz.prog 23 #[.iface 96 (OpV 4 k v), .slice a n c] w fun e w' => ComNew e w w' (nowL fs n 4 k v) ∧ Below w.heap.size w w' := by
  have HB : Hid (Base w a n fs) := hB
  clear hB
  have t1 : ∀ w : World, (Instr.typeAssert (.iface 96 (OpV 4 k v)) 56 93 true).run Tryz.prog w = .ok (.tuple #[OpV 0 0 0, .bool false]) w := fun w => by kernel_rfl
  have t2 : ∀ w : World, (Instr.typeAssert (.iface 96 (OpV 4 k v)) 56 94 true).run Tryz.prog w = .ok (.tuple #[OpV 0 0 0, .bool false]) w := fun w => by kernel_rfl
  have t3 : ∀ w : World, (Instr.typeAssert (.iface 96 (OpV 4 k v)) 56 95 true).run Tryz.prog w = .ok (.tuple #[OpV 0 0 0, .bool false]) w := fun w => by kernel_rfl
  have t4 : ∀ w : World, (Instr.typeAssert (.iface 96 (OpV 4 k v)) 56 96 true).run Tryz.prog w = .ok (.tuple #[OpV 4 k v, .bool true]) w := fun w => by kernel_rfl
  have LO0 : Hid (Below w.heap.size w w) := Below.refl _ _
  have LO1 : Hid (Below w.heap.size w (w.alloc (.cells #[.int .i64 4, .int .i64 k, .int .i64 v] 96))) := LO0.out.alloc LO0.out.size _
  obtain ⟨r, hr⟩ : ∃ x, rd fs n (placeN 1 k) = x := ⟨_, rfl⟩
  have HR : Hid (rd fs n (placeN 1 k) = r) := hr
  clear hr
  go_enter Tryz.func23, Tryz.ntmps23
  go_wp2_with fail
  (try simp only [World.size_alloc])
  refine (knownRow_any a n c k fs _ (HB.out.on LO1.out).names (HB.out.on LO1.out).pairs).mono ?_
  rintro e w2 ⟨rfl, hb⟩
  have LO2 : Hid (Below w.heap.size w w2) := LO1.out.trans (hb.mono LO1.out.size)
  clear hb
  rw [HR.out]
  have LO3 : Hid (Below w.heap.size w (w2.alloc (.cells #[] 33))) := LO2.out.alloc LO2.out.size _
  have C3 : Hid (ComAt (w2.alloc (.cells #[] 33)) w.heap.size (.slice (some ⟨w2.heap.size, 0, none⟩) 0 0) []) := com_empty_at (by simp) (by have h := LO2.out.size; (try simp at h); omega)
  go_wp2_with fail
  (try simp only [World.size_alloc])
  refine (or_if w.heap.size w (r == 0) 3 _ _ _ (.slice (some ⟨w2.heap.size, 0, none⟩) 0 0) ([]) _ (by first | exact C3.out | (simpa using C3.out)) (Nat.le_trans (Nat.le_refl 0) (by decide)) LO3.out (Nat.le_refl _)).mono ?_
  rintro e w4 ⟨v4, rfl, hc, hg, hb⟩
  have C4 : Hid (ComAt w4 w.heap.size v4 (([]) ++ ifV (r == 0) ((3 : Int), (.slice none 0 0 : Value)))) := hc
  have LO4 : Hid (Below w.heap.size w w4) := hb
  have G4 : Hid _ := hg
  clear hc hg hb
  have LO5 : Hid (Below w.heap.size w (w4.alloc (.cells #[.int .i64 r] 3))) := LO4.out.alloc LO4.out.size _
  have C5 : Hid (ComAt (w4.alloc (.cells #[.int .i64 r] 3)) w.heap.size (v4) (([]) ++ ifV (r == 0) ((3 : Int), (.slice none 0 0 : Value)))) := C4.out.alloc _
  go_wp2_with fail
  (try simp only [World.size_alloc])
  refine (or_if w.heap.size w (true) 0 _ _ _ (v4) (([]) ++ ifV (r == 0) ((3 : Int), (.slice none 0 0 : Value))) _ (by first | exact C5.out | (simpa using C5.out)) (Nat.le_trans (app_len (Nat.le_refl 0)) (by decide)) LO5.out (Nat.le_refl _)).mono ?_
  rintro e w6 ⟨v6, rfl, hc, hg, hb⟩
  have C6 : Hid (ComAt w6 w.heap.size v6 ((([]) ++ ifV (r == 0) ((3 : Int), (.slice none 0 0 : Value))) ++ ifV (true) ((0 : Int), (.slice (some ⟨w4.heap.size, 0, none⟩) 1 1 : Value)))) := hc
  have LO6 : Hid (Below w.heap.size w w6) := hb
  have G6 : Hid _ := hg
  clear hc hg hb
  go_wp2
  go_ret
  exact ⟨⟨_, _, rfl, C6.out, by rw [nowL_4, HR.out]; exact tells_app (tells_if _ _ _) (told_one_below C4.out G6.out), news_app (news_app (news_nil _) (news_if _ _ _)) (news_told LO4.out.size _ _)⟩, LO6.out⟩

theorem implNow_5 (a : Option Addr) (n c : Nat) (k v : Int) (fs : List Int) (w : World) (hB : Base w a n fs) :
    Calls Tryz.prog 23 #[.iface 97 (OpV 5 k v), .slice a n c] w fun e w' => ComNew e w w' (nowL fs n 5 k v) ∧ Below w.heap.size w w' := by
  have HB : Hid (Base w a n fs) := hB
  clear hB
  have t1 : ∀ w : World, (Instr.typeAssert (.iface 97 (OpV 5 k v)) 56 93 true).run Tryz.prog w = .ok (.tuple #[OpV 0 0 0, .bool false]) w := fun w => by kernel_rfl
  have t2 : ∀ w : World, (Instr.typeAssert (.iface 97 (OpV 5 k v)) 56 94 true).run Tryz.prog w = .ok (.tuple #[OpV 0 0 0, .bool false]) w := fun w => by kernel_rfl
  have t3 : ∀ w : World, (Instr.typeAssert (.iface 97 (OpV 5 k v)) 56 95 true).run Tryz.prog w = .ok (.tuple #[OpV 0 0 0, .bool false]) w := fun w => by kernel_rfl
  have t4 : ∀ w : World, (Instr.typeAssert (.iface 97 (OpV 5 k v)) 56 96 true).run Tryz.prog w = .ok (.tuple #[OpV 0 0 0, .bool false]) w := fun w => by kernel_rfl
  have t5 : ∀ w : World, (Instr.typeAssert (.iface 97 (OpV 5 k v)) 56 97 true).run Tryz.prog w = .ok (.tuple #[OpV 5 k v, .bool true]) w := fun w => by kernel_rfl
  have LO0 : Hid (Below w.heap.size w w) := Below.refl _ _
  have LO1 : Hid (Below w.heap.size w (w.alloc (.cells #[.int .i64 5, .int .i64 k, .int .i64 v] 97))) := LO0.out.alloc LO0.out.size _
  obtain ⟨r, hr⟩ : ∃ x, rd fs n (placeN 2 v) = x := ⟨_, rfl⟩
  have HR : Hid (rd fs n (placeN 2 v) = r) := hr
  clear hr
  go_enter Tryz.func23, Tryz.ntmps23
  go_wp2_with fail
  (try simp only [World.size_alloc])
  refine (knownOwner_any a n c v fs _ (HB.out.on LO1.out).names (HB.out.on LO1.out).pairs).mono ?_
  rintro e w2 ⟨rfl, hb⟩
  have LO2 : Hid (Below w.heap.size w w2) := LO1.out.trans (hb.mono LO1.out.size)
  clear hb
  rw [HR.out]
  have LO3 : Hid (Below w.heap.size w (w2.alloc (.cells #[] 33))) := LO2.out.alloc LO2.out.size _
  have C3 : Hid (ComAt (w2.alloc (.cells #[] 33)) w.heap.size (.slice (some ⟨w2.heap.size, 0, none⟩) 0 0) []) := com_empty_at (by simp) (by have h := LO2.out.size; (try simp at h); omega)
  go_wp2_with fail
  (try simp only [World.size_alloc])
  refine (or_if w.heap.size w (r == 0) 3 _ _ _ (.slice (some ⟨w2.heap.size, 0, none⟩) 0 0) ([]) _ (by first | exact C3.out | (simpa using C3.out)) (Nat.le_trans (Nat.le_refl 0) (by decide)) LO3.out (Nat.le_refl _)).mono ?_
  rintro e w4 ⟨v4, rfl, hc, hg, hb⟩
  have C4 : Hid (ComAt w4 w.heap.size v4 (([]) ++ ifV (r == 0) ((3 : Int), (.slice none 0 0 : Value)))) := hc
  have LO4 : Hid (Below w.heap.size w w4) := hb
  have G4 : Hid _ := hg
  clear hc hg hb
  have LO5 : Hid (Below w.heap.size w (w4.alloc (.cells #[.int .i64 (wrap64 (r - 1))] 3))) := LO4.out.alloc LO4.out.size _
  have C5 : Hid (ComAt (w4.alloc (.cells #[.int .i64 (wrap64 (r - 1))] 3)) w.heap.size (v4) (([]) ++ ifV (r == 0) ((3 : Int), (.slice none 0 0 : Value)))) := C4.out.alloc _
  go_wp2_with fail
  (try rw [wrapEq])
  (try simp only [World.size_alloc])
  refine (or_if w.heap.size w (true) 0 _ _ _ (v4) (([]) ++ ifV (r == 0) ((3 : Int), (.slice none 0 0 : Value))) _ (by first | exact C5.out | (simpa using C5.out)) (Nat.le_trans (app_len (Nat.le_refl 0)) (by decide)) LO5.out (Nat.le_refl _)).mono ?_
  rintro e w6 ⟨v6, rfl, hc, hg, hb⟩
  have C6 : Hid (ComAt w6 w.heap.size v6 ((([]) ++ ifV (r == 0) ((3 : Int), (.slice none 0 0 : Value))) ++ ifV (true) ((0 : Int), (.slice (some ⟨w4.heap.size, 0, none⟩) 1 1 : Value)))) := hc
  have LO6 : Hid (Below w.heap.size w w6) := hb
  have G6 : Hid _ := hg
  clear hc hg hb
  go_wp2
  go_ret
  exact ⟨⟨_, _, rfl, C6.out, by rw [nowL_5, HR.out]; exact tells_app (tells_if _ _ _) (told_one_below C4.out G6.out), news_app (news_app (news_nil _) (news_if _ _ _)) (news_told LO4.out.size _ _)⟩, LO6.out⟩

theorem implNow_6 (a : Option Addr) (n c : Nat) (k v : Int) (fs : List Int) (w : World) (hB : Base w a n fs) :
    Calls Tryz.prog 23 #[.iface 98 (OpV 6 k v), .slice a n c] w fun e w' => ComNew e w w' (nowL fs n 6 k v) ∧ Below w.heap.size w w' := by
  have HB : Hid (Base w a n fs) := hB
  clear hB
  have t1 : ∀ w : World, (Instr.typeAssert (.iface 98 (OpV 6 k v)) 56 93 true).run Tryz.prog w = .ok (.tuple #[OpV 0 0 0, .bool false]) w := fun w => by kernel_rfl
  have t2 : ∀ w : World, (Instr.typeAssert (.iface 98 (OpV 6 k v)) 56 94 true).run Tryz.prog w = .ok (.tuple #[OpV 0 0 0, .bool false]) w := fun w => by kernel_rfl
  have t3 : ∀ w : World, (Instr.typeAssert (.iface 98 (OpV 6 k v)) 56 95 true).run Tryz.prog w = .ok (.tuple #[OpV 0 0 0, .bool false]) w := fun w => by kernel_rfl
  have t4 : ∀ w : World, (Instr.typeAssert (.iface 98 (OpV 6 k v)) 56 96 true).run Tryz.prog w = .ok (.tuple #[OpV 0 0 0, .bool false]) w := fun w => by kernel_rfl
  have t5 : ∀ w : World, (Instr.typeAssert (.iface 98 (OpV 6 k v)) 56 97 true).run Tryz.prog w = .ok (.tuple #[OpV 0 0 0, .bool false]) w := fun w => by kernel_rfl
  have t6 : ∀ w : World, (Instr.typeAssert (.iface 98 (OpV 6 k v)) 56 98 true).run Tryz.prog w = .ok (.tuple #[OpV 6 k v, .bool true]) w := fun w => by kernel_rfl
  have LO0 : Hid (Below w.heap.size w w) := Below.refl _ _
  have LO1 : Hid (Below w.heap.size w (w.alloc (.cells #[.int .i64 6, .int .i64 k, .int .i64 v] 98))) := LO0.out.alloc LO0.out.size _
  obtain ⟨r, hr⟩ : ∃ x, rd fs n (placeN 3 k) = x := ⟨_, rfl⟩
  have HR : Hid (rd fs n (placeN 3 k) = r) := hr
  clear hr
  have LO2 : Hid (Below w.heap.size w ((w.alloc (.cells #[.int .i64 6, .int .i64 k, .int .i64 v] 98)).alloc (.cells #[] 33))) := LO1.out.alloc LO1.out.size _
  have C2 : Hid (ComAt ((w.alloc (.cells #[.int .i64 6, .int .i64 k, .int .i64 v] 98)).alloc (.cells #[] 33)) w.heap.size (.slice (some ⟨w.heap.size + 1, 0, none⟩) 0 0) []) := com_empty_at (by simp) (by have h := LO1.out.size; (try simp at h); omega)
  go_enter Tryz.func23, Tryz.ntmps23
  go_wp2_with fail
  (try simp only [World.size_alloc])
  refine (implCountAt_any k _ (HB.out.on LO2.out).names).mono ?_
  rintro e w3 ⟨rfl, hb⟩
  have LO3 : Hid (Below w.heap.size w w3) := LO2.out.trans (hb.mono LO2.out.size)
  have C3 : Hid (ComAt w3 w.heap.size (.slice (some ⟨w.heap.size + 1, 0, none⟩) 0 0) ([])) := com_kept C2.out hb
  clear hb
  go_wp2_with fail
  (try simp only [World.size_alloc])
  refine (knownAt_any a n c (placeN 3 k) fs _ (HB.out.on LO3.out).pairs).mono ?_
  rintro e w4 ⟨rfl, hb⟩
  have LO4 : Hid (Below w.heap.size w w4) := LO3.out.trans (hb.mono LO3.out.size)
  have C4 : Hid (ComAt w4 w.heap.size (.slice (some ⟨w.heap.size + 1, 0, none⟩) 0 0) ([])) := com_kept C3.out hb
  clear hb
  rw [HR.out]
  have LO5 : Hid (Below w.heap.size w (w4.alloc (.cells #[.int .i64 r] 3))) := LO4.out.alloc LO4.out.size _
  have C5 : Hid (ComAt (w4.alloc (.cells #[.int .i64 r] 3)) w.heap.size (.slice (some ⟨w.heap.size + 1, 0, none⟩) 0 0) ([])) := C4.out.alloc _
  go_wp2_with fail
  (try simp only [World.size_alloc])
  refine (or_if w.heap.size w (true) 0 _ _ _ (.slice (some ⟨w.heap.size + 1, 0, none⟩) 0 0) ([]) _ (by first | exact C5.out | (simpa using C5.out)) (Nat.le_trans (Nat.le_refl 0) (by decide)) LO5.out (Nat.le_refl _)).mono ?_
  rintro e w6 ⟨v6, rfl, hc, hg, hb⟩
  have C6 : Hid (ComAt w6 w.heap.size v6 (([]) ++ ifV (true) ((0 : Int), (.slice (some ⟨w4.heap.size, 0, none⟩) 1 1 : Value)))) := hc
  have LO6 : Hid (Below w.heap.size w w6) := hb
  have G6 : Hid _ := hg
  clear hc hg hb
  go_wp2
  go_ret
  exact ⟨⟨_, _, rfl, C6.out, by rw [nowL_6, HR.out]; exact told_one_below C4.out G6.out, news_app (news_nil _) (news_told LO4.out.size _ _)⟩, LO6.out⟩

theorem implNow_7 (a : Option Addr) (n c : Nat) (k v : Int) (fs : List Int) (w : World) (hB : Base w a n fs) :
    Calls Tryz.prog 23 #[.iface 99 (OpV 7 k v), .slice a n c] w fun e w' => ComNew e w w' (nowL fs n 7 k v) ∧ Below w.heap.size w w' := by
  have HB : Hid (Base w a n fs) := hB
  clear hB
  have t1 : ∀ w : World, (Instr.typeAssert (.iface 99 (OpV 7 k v)) 56 93 true).run Tryz.prog w = .ok (.tuple #[OpV 0 0 0, .bool false]) w := fun w => by kernel_rfl
  have t2 : ∀ w : World, (Instr.typeAssert (.iface 99 (OpV 7 k v)) 56 94 true).run Tryz.prog w = .ok (.tuple #[OpV 0 0 0, .bool false]) w := fun w => by kernel_rfl
  have t3 : ∀ w : World, (Instr.typeAssert (.iface 99 (OpV 7 k v)) 56 95 true).run Tryz.prog w = .ok (.tuple #[OpV 0 0 0, .bool false]) w := fun w => by kernel_rfl
  have t4 : ∀ w : World, (Instr.typeAssert (.iface 99 (OpV 7 k v)) 56 96 true).run Tryz.prog w = .ok (.tuple #[OpV 0 0 0, .bool false]) w := fun w => by kernel_rfl
  have t5 : ∀ w : World, (Instr.typeAssert (.iface 99 (OpV 7 k v)) 56 97 true).run Tryz.prog w = .ok (.tuple #[OpV 0 0 0, .bool false]) w := fun w => by kernel_rfl
  have t6 : ∀ w : World, (Instr.typeAssert (.iface 99 (OpV 7 k v)) 56 98 true).run Tryz.prog w = .ok (.tuple #[OpV 0 0 0, .bool false]) w := fun w => by kernel_rfl
  have t8 : ∀ w : World, (Instr.typeAssert (.iface 99 (OpV 7 k v)) 56 100 true).run Tryz.prog w = .ok (.tuple #[OpV 0 0 0, .bool false]) w := fun w => by kernel_rfl
  have t9 : ∀ w : World, (Instr.typeAssert (.iface 99 (OpV 7 k v)) 56 101 true).run Tryz.prog w = .ok (.tuple #[OpV 0 0 0, .bool false]) w := fun w => by kernel_rfl
  have t10 : ∀ w : World, (Instr.typeAssert (.iface 99 (OpV 7 k v)) 56 102 true).run Tryz.prog w = .ok (.tuple #[OpV 0 0 0, .bool false]) w := fun w => by kernel_rfl
  have LO0 : Hid (Below w.heap.size w w) := Below.refl _ _
  have LO1 : Hid (Below w.heap.size w (w.alloc (.cells #[] 33))) := LO0.out.alloc LO0.out.size _
  have C1 : Hid (ComAt (w.alloc (.cells #[] 33)) w.heap.size (.slice (some ⟨w.heap.size, 0, none⟩) 0 0) []) := com_empty_at (by simp) (by have h := LO0.out.size; (try simp at h); omega)
  go_enter Tryz.func23, Tryz.ntmps23
  go_wp2
  go_ret
  exact ⟨⟨_, _, rfl, C1.out, by rw [nowL_7]; exact trivial, news_nil _⟩, LO1.out⟩

theorem implNow_8 (a : Option Addr) (n c : Nat) (k v : Int) (fs : List Int) (w : World) (hB : Base w a n fs) :
    Calls Tryz.prog 23 #[.iface 100 (OpV 8 k v), .slice a n c] w fun e w' => ComNew e w w' (nowL fs n 8 k v) ∧ Below w.heap.size w w' := by
  have HB : Hid (Base w a n fs) := hB
  clear hB
  have t1 : ∀ w : World, (Instr.typeAssert (.iface 100 (OpV 8 k v)) 56 93 true).run Tryz.prog w = .ok (.tuple #[OpV 0 0 0, .bool false]) w := fun w => by kernel_rfl
  have t2 : ∀ w : World, (Instr.typeAssert (.iface 100 (OpV 8 k v)) 56 94 true).run Tryz.prog w = .ok (.tuple #[OpV 0 0 0, .bool false]) w := fun w => by kernel_rfl
  have t3 : ∀ w : World, (Instr.typeAssert (.iface 100 (OpV 8 k v)) 56 95 true).run Tryz.prog w = .ok (.tuple #[OpV 0 0 0, .bool false]) w := fun w => by kernel_rfl
  have t4 : ∀ w : World, (Instr.typeAssert (.iface 100 (OpV 8 k v)) 56 96 true).run Tryz.prog w = .ok (.tuple #[OpV 0 0 0, .bool false]) w := fun w => by kernel_rfl
  have t5 : ∀ w : World, (Instr.typeAssert (.iface 100 (OpV 8 k v)) 56 97 true).run Tryz.prog w = .ok (.tuple #[OpV 0 0 0, .bool false]) w := fun w => by kernel_rfl
  have t6 : ∀ w : World, (Instr.typeAssert (.iface 100 (OpV 8 k v)) 56 98 true).run Tryz.prog w = .ok (.tuple #[OpV 0 0 0, .bool false]) w := fun w => by kernel_rfl
  have t8 : ∀ w : World, (Instr.typeAssert (.iface 100 (OpV 8 k v)) 56 100 true).run Tryz.prog w = .ok (.tuple #[OpV 8 k v, .bool true]) w := fun w => by kernel_rfl
  have LO0 : Hid (Below w.heap.size w w) := Below.refl _ _
  have LO1 : Hid (Below w.heap.size w (w.alloc (.cells #[.int .i64 8, .int .i64 k, .int .i64 v] 100))) := LO0.out.alloc LO0.out.size _
  obtain ⟨r, hr⟩ : ∃ x, rd fs n (13) = x := ⟨_, rfl⟩
  have HR : Hid (rd fs n (13) = r) := hr
  clear hr
  have LO2 : Hid (Below w.heap.size w ((w.alloc (.cells #[.int .i64 8, .int .i64 k, .int .i64 v] 100)).alloc (.cells #[] 33))) := LO1.out.alloc LO1.out.size _
  have C2 : Hid (ComAt ((w.alloc (.cells #[.int .i64 8, .int .i64 k, .int .i64 v] 100)).alloc (.cells #[] 33)) w.heap.size (.slice (some ⟨w.heap.size + 1, 0, none⟩) 0 0) []) := com_empty_at (by simp) (by have h := LO1.out.size; (try simp at h); omega)
  go_enter Tryz.func23, Tryz.ntmps23
  go_wp2_with fail
  (try simp only [World.size_alloc])
  refine (knownState_any a n c fs _ (HB.out.on LO2.out).names (HB.out.on LO2.out).pairs).mono ?_
  rintro e w3 ⟨rfl, hb⟩
  have LO3 : Hid (Below w.heap.size w w3) := LO2.out.trans (hb.mono LO2.out.size)
  have C3 : Hid (ComAt w3 w.heap.size (.slice (some ⟨w.heap.size + 1, 0, none⟩) 0 0) ([])) := com_kept C2.out hb
  clear hb
  rw [HR.out]
  go_wp2_with fail
  (try simp only [World.size_alloc])
  refine (or_if w.heap.size w (r != 0) 4 _ _ _ (.slice (some ⟨w.heap.size + 1, 0, none⟩) 0 0) ([]) _ (by first | exact C3.out | (simpa using C3.out)) (Nat.le_trans (Nat.le_refl 0) (by decide)) LO3.out (Nat.le_refl _)).mono ?_
  rintro e w4 ⟨v4, rfl, hc, hg, hb⟩
  have C4 : Hid (ComAt w4 w.heap.size v4 (([]) ++ ifV (r != 0) ((4 : Int), (.slice none 0 0 : Value)))) := hc
  have LO4 : Hid (Below w.heap.size w w4) := hb
  have G4 : Hid _ := hg
  clear hc hg hb
  go_wp2
  go_ret
  exact ⟨⟨_, _, rfl, C4.out, by rw [nowL_8, HR.out]; exact tells_if _ _ _, news_app (news_nil _) (news_if _ _ _)⟩, LO4.out⟩

theorem implNow_10 (a : Option Addr) (n c : Nat) (k v : Int) (fs : List Int) (w : World) (hB : Base w a n fs) :
    Calls Tryz.prog 23 #[.iface 102 (OpV 10 k v), .slice a n c] w fun e w' => ComNew e w w' (nowL fs n 10 k v) ∧ Below w.heap.size w w' := by
  have HB : Hid (Base w a n fs) := hB
  clear hB
  have t1 : ∀ w : World, (Instr.typeAssert (.iface 102 (OpV 10 k v)) 56 93 true).run Tryz.prog w = .ok (.tuple #[OpV 0 0 0, .bool false]) w := fun w => by kernel_rfl
  have t2 : ∀ w : World, (Instr.typeAssert (.iface 102 (OpV 10 k v)) 56 94 true).run Tryz.prog w = .ok (.tuple #[OpV 0 0 0, .bool false]) w := fun w => by kernel_rfl
  have t3 : ∀ w : World, (Instr.typeAssert (.iface 102 (OpV 10 k v)) 56 95 true).run Tryz.prog w = .ok (.tuple #[OpV 0 0 0, .bool false]) w := fun w => by kernel_rfl
  have t4 : ∀ w : World, (Instr.typeAssert (.iface 102 (OpV 10 k v)) 56 96 true).run Tryz.prog w = .ok (.tuple #[OpV 0 0 0, .bool false]) w := fun w => by kernel_rfl
  have t5 : ∀ w : World, (Instr.typeAssert (.iface 102 (OpV 10 k v)) 56 97 true).run Tryz.prog w = .ok (.tuple #[OpV 0 0 0, .bool false]) w := fun w => by kernel_rfl
  have t6 : ∀ w : World, (Instr.typeAssert (.iface 102 (OpV 10 k v)) 56 98 true).run Tryz.prog w = .ok (.tuple #[OpV 0 0 0, .bool false]) w := fun w => by kernel_rfl
  have t8 : ∀ w : World, (Instr.typeAssert (.iface 102 (OpV 10 k v)) 56 100 true).run Tryz.prog w = .ok (.tuple #[OpV 0 0 0, .bool false]) w := fun w => by kernel_rfl
  have t9 : ∀ w : World, (Instr.typeAssert (.iface 102 (OpV 10 k v)) 56 101 true).run Tryz.prog w = .ok (.tuple #[OpV 0 0 0, .bool false]) w := fun w => by kernel_rfl
  have t10 : ∀ w : World, (Instr.typeAssert (.iface 102 (OpV 10 k v)) 56 102 true).run Tryz.prog w = .ok (.tuple #[OpV 10 k v, .bool true]) w := fun w => by kernel_rfl
  have LO0 : Hid (Below w.heap.size w w) := Below.refl _ _
  have LO1 : Hid (Below w.heap.size w (w.alloc (.cells #[.int .i64 10, .int .i64 k, .int .i64 v] 102))) := LO0.out.alloc LO0.out.size _
  obtain ⟨r, hr⟩ : ∃ x, rd fs n (13) = x := ⟨_, rfl⟩
  have HR : Hid (rd fs n (13) = r) := hr
  clear hr
  have LO2 : Hid (Below w.heap.size w ((w.alloc (.cells #[.int .i64 10, .int .i64 k, .int .i64 v] 102)).alloc (.cells #[] 33))) := LO1.out.alloc LO1.out.size _
  have C2 : Hid (ComAt ((w.alloc (.cells #[.int .i64 10, .int .i64 k, .int .i64 v] 102)).alloc (.cells #[] 33)) w.heap.size (.slice (some ⟨w.heap.size + 1, 0, none⟩) 0 0) []) := com_empty_at (by simp) (by have h := LO1.out.size; (try simp at h); omega)
  go_enter Tryz.func23, Tryz.ntmps23
  go_wp2_with fail
  (try simp only [World.size_alloc])
  refine (knownState_any a n c fs _ (HB.out.on LO2.out).names (HB.out.on LO2.out).pairs).mono ?_
  rintro e w3 ⟨rfl, hb⟩
  have LO3 : Hid (Below w.heap.size w w3) := LO2.out.trans (hb.mono LO2.out.size)
  have C3 : Hid (ComAt w3 w.heap.size (.slice (some ⟨w.heap.size + 1, 0, none⟩) 0 0) ([])) := com_kept C2.out hb
  clear hb
  rw [HR.out]
  go_wp2_with fail
  (try simp only [World.size_alloc])
  refine (or_if w.heap.size w (r != 5) 4 _ _ _ (.slice (some ⟨w.heap.size + 1, 0, none⟩) 0 0) ([]) _ (by first | exact C3.out | (simpa using C3.out)) (Nat.le_trans (Nat.le_refl 0) (by decide)) LO3.out (Nat.le_refl _)).mono ?_
  rintro e w4 ⟨v4, rfl, hc, hg, hb⟩
  have C4 : Hid (ComAt w4 w.heap.size v4 (([]) ++ ifV (r != 5) ((4 : Int), (.slice none 0 0 : Value)))) := hc
  have LO4 : Hid (Below w.heap.size w w4) := hb
  have G4 : Hid _ := hg
  clear hc hg hb
  go_wp2
  go_ret
  exact ⟨⟨_, _, rfl, C4.out, by rw [nowL_10, HR.out]; exact tells_if _ _ _, news_app (news_nil _) (news_if _ _ _)⟩, LO4.out⟩

theorem implNow_9a (a : Option Addr) (n c : Nat) (k v : Int) (fs : List Int) (w : World) (hB : Base w a n fs) (hz :  rd fs n 13 = 0) :
    Calls Tryz.prog 23 #[.iface 101 (OpV 9 k v), .slice a n c] w fun e w' => ComNew e w w' (nowL fs n 9 k v) ∧ Below w.heap.size w w' := by
  have HB : Hid (Base w a n fs) := hB
  clear hB
  have t1 : ∀ w : World, (Instr.typeAssert (.iface 101 (OpV 9 k v)) 56 93 true).run Tryz.prog w = .ok (.tuple #[OpV 0 0 0, .bool false]) w := fun w => by kernel_rfl
  have t2 : ∀ w : World, (Instr.typeAssert (.iface 101 (OpV 9 k v)) 56 94 true).run Tryz.prog w = .ok (.tuple #[OpV 0 0 0, .bool false]) w := fun w => by kernel_rfl
  have t3 : ∀ w : World, (Instr.typeAssert (.iface 101 (OpV 9 k v)) 56 95 true).run Tryz.prog w = .ok (.tuple #[OpV 0 0 0, .bool false]) w := fun w => by kernel_rfl
  have t4 : ∀ w : World, (Instr.typeAssert (.iface 101 (OpV 9 k v)) 56 96 true).run Tryz.prog w = .ok (.tuple #[OpV 0 0 0, .bool false]) w := fun w => by kernel_rfl
  have t5 : ∀ w : World, (Instr.typeAssert (.iface 101 (OpV 9 k v)) 56 97 true).run Tryz.prog w = .ok (.tuple #[OpV 0 0 0, .bool false]) w := fun w => by kernel_rfl
  have t6 : ∀ w : World, (Instr.typeAssert (.iface 101 (OpV 9 k v)) 56 98 true).run Tryz.prog w = .ok (.tuple #[OpV 0 0 0, .bool false]) w := fun w => by kernel_rfl
  have t8 : ∀ w : World, (Instr.typeAssert (.iface 101 (OpV 9 k v)) 56 100 true).run Tryz.prog w = .ok (.tuple #[OpV 0 0 0, .bool false]) w := fun w => by kernel_rfl
  have t9 : ∀ w : World, (Instr.typeAssert (.iface 101 (OpV 9 k v)) 56 101 true).run Tryz.prog w = .ok (.tuple #[OpV 9 k v, .bool true]) w := fun w => by kernel_rfl
  have LO0 : Hid (Below w.heap.size w w) := Below.refl _ _
  have LO1 : Hid (Below w.heap.size w (w.alloc (.cells #[.int .i64 9, .int .i64 k, .int .i64 v] 101))) := LO0.out.alloc LO0.out.size _
  obtain ⟨r, hr⟩ : ∃ x, rd fs n (13) = x := ⟨_, rfl⟩
  have HR : Hid (rd fs n (13) = r) := hr
  clear hr
  have hr0 :  r = 0 := by rw [← HR.out]; exact hz
  clear hz
  have h0 : (r == 0) = true := by simpa using hr0
  have HZ : Hid ( r = 0) := hr0
  clear hr0
  go_enter Tryz.func23, Tryz.ntmps23
  go_wp2_with fail
  (try simp only [World.size_alloc])
  refine (knownState_any a n c fs _ (HB.out.on LO1.out).names (HB.out.on LO1.out).pairs).mono ?_
  rintro e w2 ⟨rfl, hb⟩
  have LO2 : Hid (Below w.heap.size w w2) := LO1.out.trans (hb.mono LO1.out.size)
  clear hb
  rw [HR.out]
  have LO3 : Hid (Below w.heap.size w (w2.alloc (.cells #[] 33))) := LO2.out.alloc LO2.out.size _
  have C3 : Hid (ComAt (w2.alloc (.cells #[] 33)) w.heap.size (.slice (some ⟨w2.heap.size, 0, none⟩) 0 0) []) := com_empty_at (by simp) (by have h := LO2.out.size; (try simp at h); omega)
  go_wp2_with fail
  (try simp only [World.size_alloc])
  refine (or_if w.heap.size w (true) 4 _ _ _ (.slice (some ⟨w2.heap.size, 0, none⟩) 0 0) ([]) _ (by first | exact C3.out | (simpa using C3.out)) (Nat.le_trans (Nat.le_refl 0) (by decide)) LO3.out (Nat.le_refl _)).mono ?_
  rintro e w4 ⟨v4, rfl, hc, hg, hb⟩
  have C4 : Hid (ComAt w4 w.heap.size v4 (([]) ++ ifV (true) ((4 : Int), (.slice none 0 0 : Value)))) := hc
  have LO4 : Hid (Below w.heap.size w w4) := hb
  have G4 : Hid _ := hg
  clear hc hg hb
  go_wp2
  go_ret
  exact ⟨⟨_, _, rfl, C4.out, by rw [nowL_9, HR.out, show (r == 0 || decide (4 < r)) = true from (by have h := HZ.out; simp [h]), List.nil_append]; exact tells_if _ _ _, news_app (news_nil _) (news_if _ _ _)⟩, LO4.out⟩

theorem implNow_9b (a : Option Addr) (n c : Nat) (k v : Int) (fs : List Int) (w : World) (hB : Base w a n fs) (hz : ¬ rd fs n 13 = 0) :
    Calls Tryz.prog 23 #[.iface 101 (OpV 9 k v), .slice a n c] w fun e w' => ComNew e w w' (nowL fs n 9 k v) ∧ Below w.heap.size w w' := by
  have HB : Hid (Base w a n fs) := hB
  clear hB
  have t1 : ∀ w : World, (Instr.typeAssert (.iface 101 (OpV 9 k v)) 56 93 true).run Tryz.prog w = .ok (.tuple #[OpV 0 0 0, .bool false]) w := fun w => by kernel_rfl
  have t2 : ∀ w : World, (Instr.typeAssert (.iface 101 (OpV 9 k v)) 56 94 true).run Tryz.prog w = .ok (.tuple #[OpV 0 0 0, .bool false]) w := fun w => by kernel_rfl
  have t3 : ∀ w : World, (Instr.typeAssert (.iface 101 (OpV 9 k v)) 56 95 true).run Tryz.prog w = .ok (.tuple #[OpV 0 0 0, .bool false]) w := fun w => by kernel_rfl
  have t4 : ∀ w : World, (Instr.typeAssert (.iface 101 (OpV 9 k v)) 56 96 true).run Tryz.prog w = .ok (.tuple #[OpV 0 0 0, .bool false]) w := fun w => by kernel_rfl
  have t5 : ∀ w : World, (Instr.typeAssert (.iface 101 (OpV 9 k v)) 56 97 true).run Tryz.prog w = .ok (.tuple #[OpV 0 0 0, .bool false]) w := fun w => by kernel_rfl
  have t6 : ∀ w : World, (Instr.typeAssert (.iface 101 (OpV 9 k v)) 56 98 true).run Tryz.prog w = .ok (.tuple #[OpV 0 0 0, .bool false]) w := fun w => by kernel_rfl
  have t8 : ∀ w : World, (Instr.typeAssert (.iface 101 (OpV 9 k v)) 56 100 true).run Tryz.prog w = .ok (.tuple #[OpV 0 0 0, .bool false]) w := fun w => by kernel_rfl
  have t9 : ∀ w : World, (Instr.typeAssert (.iface 101 (OpV 9 k v)) 56 101 true).run Tryz.prog w = .ok (.tuple #[OpV 9 k v, .bool true]) w := fun w => by kernel_rfl
  have LO0 : Hid (Below w.heap.size w w) := Below.refl _ _
  have LO1 : Hid (Below w.heap.size w (w.alloc (.cells #[.int .i64 9, .int .i64 k, .int .i64 v] 101))) := LO0.out.alloc LO0.out.size _
  obtain ⟨r, hr⟩ : ∃ x, rd fs n (13) = x := ⟨_, rfl⟩
  have HR : Hid (rd fs n (13) = r) := hr
  clear hr
  have hr0 : ¬ r = 0 := by rw [← HR.out]; exact hz
  clear hz
  have h0 : (r == 0) = false := by simpa using hr0
  have HZ : Hid (¬ r = 0) := hr0
  clear hr0
  go_enter Tryz.func23, Tryz.ntmps23
  go_wp2_with fail
  (try simp only [World.size_alloc])
  refine (knownState_any a n c fs _ (HB.out.on LO1.out).names (HB.out.on LO1.out).pairs).mono ?_
  rintro e w2 ⟨rfl, hb⟩
  have LO2 : Hid (Below w.heap.size w w2) := LO1.out.trans (hb.mono LO1.out.size)
  clear hb
  rw [HR.out]
  have LO3 : Hid (Below w.heap.size w (w2.alloc (.cells #[] 33))) := LO2.out.alloc LO2.out.size _
  have C3 : Hid (ComAt (w2.alloc (.cells #[] 33)) w.heap.size (.slice (some ⟨w2.heap.size, 0, none⟩) 0 0) []) := com_empty_at (by simp) (by have h := LO2.out.size; (try simp at h); omega)
  go_wp2_with fail
  (try simp only [World.size_alloc])
  refine (or_if w.heap.size w (decide (4 < r)) 4 _ _ _ (.slice (some ⟨w2.heap.size, 0, none⟩) 0 0) ([]) _ (by first | exact C3.out | (simpa using C3.out)) (Nat.le_trans (Nat.le_refl 0) (by decide)) LO3.out (Nat.le_refl _)).mono ?_
  rintro e w4 ⟨v4, rfl, hc, hg, hb⟩
  have C4 : Hid (ComAt w4 w.heap.size v4 (([]) ++ ifV (decide (4 < r)) ((4 : Int), (.slice none 0 0 : Value)))) := hc
  have LO4 : Hid (Below w.heap.size w w4) := hb
  have G4 : Hid _ := hg
  clear hc hg hb
  go_wp2
  go_ret
  exact ⟨⟨_, _, rfl, C4.out, by rw [nowL_9, HR.out, show (r == 0 || decide (4 < r)) = decide (4 < r) from (by have h := HZ.out; simp [h]), List.nil_append]; exact tells_if _ _ _, news_app (news_nil _) (news_if _ _ _)⟩, LO4.out⟩

theorem implNow_1 (a : Option Addr) (n c : Nat) (k v : Int) (fs : List Int) (w : World) (hB : Base w a n fs) :
    Calls Tryz.prog 23 #[.iface 93 (OpV 1 k v), .slice a n c] w fun e w' => ComNew e w w' (nowL fs n 1 k v) ∧ Below w.heap.size w w' := by
  have HB : Hid (Base w a n fs) := hB
  clear hB
  have t1 : ∀ w : World, (Instr.typeAssert (.iface 93 (OpV 1 k v)) 56 93 true).run Tryz.prog w = .ok (.tuple #[OpV 1 k v, .bool true]) w := fun w => by kernel_rfl
  obtain ⟨r, hr⟩ : ∃ x, rd fs n (placeN 1 k) = x := ⟨_, rfl⟩
  have HR : Hid (rd fs n (placeN 1 k) = r) := hr
  clear hr
  obtain ⟨o, ho⟩ : ∃ x, rd fs n (placeN 2 v) = x := ⟨_, rfl⟩
  have HO : Hid (rd fs n (placeN 2 v) = o) := ho
  clear ho
  obtain ⟨W0, hW0⟩ : ∃ W0, W0 = w.alloc (.cells #[.int .i64 1, .int .i64 k, .int .i64 v] 93) := ⟨_, rfl⟩
  have hs0 : W0.heap.size = w.heap.size + 1 := by rw [hW0]; simp
  have CE : Hid (∀ w', Below (w.heap.size + 1) W0 w' → (w'.cell? ⟨w.heap.size, 1, none⟩ = some (.int .i64 k) ∧ w'.cell? ⟨w.heap.size, 2, none⟩ = some (.int .i64 v)) ∧ Below w.heap.size w w') := fun w' hb => by
    have hx : w'.heap[w.heap.size]? = some (.cells #[.int .i64 1, .int .i64 k, .int .i64 v] 93 (0, 0)) := (hb.block _ (by omega)).trans (by rw [hW0]; exact World.alloc_heap_new w _)
    exact ⟨⟨by simp [World.cell?, hx], by simp [World.cell?, hx]⟩, (show Below w.heap.size w W0 by rw [hW0]; exact (Below.refl _ _).alloc (Nat.le_refl _) _).trans (hb.mono (by omega))⟩
  have hb9 : Below (w.heap.size + 1) W0 W0 := Below.refl _ _
  go_enter Tryz.func23, Tryz.ntmps23
  go_wp2_with fail
  rw [← hW0]
  clear hW0
  go_region_held3 (fun w' => w'.cell? ⟨w.heap.size, 1, none⟩ = some (.int .i64 k) ∧ w'.cell? ⟨w.heap.size, 2, none⟩ = some (.int .i64 v))
      (first | (exact (CE.out _ hb9).1) | (exact (CE.out _ hb9.drew).1) | (exact (CE.out _ (hb9.alloc (by have h := hb9.size; omega) _)).1) | (exact (CE.out _ (hb9.alloc (by have h := hb9.size; omega) _).drew).1) | go_keep)
      (first
      | (go_at_call 65
         refine (or_if (w.heap.size + 1) W0 (o != 0) 2 _ _ _ _ (([]) ++ ifV (r != 0) ((1 : Int), (.slice none 0 0 : Value))) _ C3.out (Nat.le_trans (app_len (Nat.le_refl 0)) (by decide)) hb9 (by omega)).mono ?_
         rintro e w4 ⟨v4, rfl, hc, _, hb8⟩
         have C4 : Hid (ComAt w4 (w.heap.size + 1) v4 ((([]) ++ ifV (r != 0) ((1 : Int), (.slice none 0 0 : Value))) ++ ifV (o != 0) ((2 : Int), (.slice none 0 0 : Value)))) := hc
         have hb9 : Below (w.heap.size + 1) W0 w4 := hb8
         clear hc)
      | (go_at_call 67
         refine (knownOwner_any a n c v fs _ (HB.out.on (CE.out _ hb9).2).names (HB.out.on (CE.out _ hb9).2).pairs).mono ?_
         rintro e w3 ⟨rfl, hb1⟩
         rw [HO.out]
         have C3 : Hid (ComAt w3 (w.heap.size + 1) (v2) (([]) ++ ifV (r != 0) ((1 : Int), (.slice none 0 0 : Value)))) := com_kept C2.out hb1
         have hb9 : Below (w.heap.size + 1) W0 w3 := hb9.trans (hb1.mono (by have h := hb9.size; (try simp); omega))
         clear hb1)
      | (go_at_call 65
         refine (or_if (w.heap.size + 1) W0 (r != 0) 1 _ _ _ _ ([]) _ C1.out (Nat.le_trans (Nat.le_refl 0) (by decide)) hb9 (by omega)).mono ?_
         rintro e w2 ⟨v2, rfl, hc, _, hb8⟩
         have C2 : Hid (ComAt w2 (w.heap.size + 1) v2 (([]) ++ ifV (r != 0) ((1 : Int), (.slice none 0 0 : Value)))) := hc
         have hb9 : Below (w.heap.size + 1) W0 w2 := hb8
         clear hc)
      | (go_at_call 65
         refine (or_if (w.heap.size + 1) W0 (r != 0) 1 _ _ _ _ ([]) _ (com_empty_at rfl (by have h := hb9.size; omega)) (Nat.le_trans (Nat.le_refl 0) (by decide)) (hb9.alloc (by have h := hb9.size; omega) _) (by omega)).mono ?_
         rintro e w2 ⟨v2, rfl, hc, _, hb8⟩
         have C2 : Hid (ComAt w2 (w.heap.size + 1) v2 (([]) ++ ifV (r != 0) ((1 : Int), (.slice none 0 0 : Value)))) := hc
         have hb9 : Below (w.heap.size + 1) W0 w2 := hb8
         clear hc)
      | (go_at_call 66
         refine (knownRow_any a n c k fs _ (HB.out.on (CE.out _ (hb9.alloc (by have h := hb9.size; omega) _).drew).2).names (HB.out.on (CE.out _ (hb9.alloc (by have h := hb9.size; omega) _).drew).2).pairs).mono ?_
         rintro e w1 ⟨rfl, hb1⟩
         rw [HR.out]
         have C1 : Hid (ComAt w1 (w.heap.size + 1) (.slice (some ⟨w.heap.size + 1, 0, none⟩) 0 0) ([])) := com_kept (com_empty_drew hs0 (Nat.le_refl _)) hb1
         have hb9 : Below (w.heap.size + 1) W0 w1 := (hb9.alloc (by have h := hb9.size; omega) _).drew.trans (hb1.mono (by have h := hb9.size; (try simp); omega))
         clear hb1)
      | (go_at_call 66
         refine (knownRow_any a n c k fs _ (HB.out.on (CE.out _ hb9.drew).2).names (HB.out.on (CE.out _ hb9.drew).2).pairs).mono ?_
         rintro e w1 ⟨rfl, hb1⟩
         rw [HR.out]
         have hb9 : Below (w.heap.size + 1) W0 w1 := hb9.drew.trans (hb1.mono (by have h := hb9.size; (try simp); omega))
         clear hb1))
  all_goals
    go_wp2
    go_ret
    exact ⟨⟨_, _, rfl, own_weaken C4.out (by omega), by rw [nowL_1, HR.out, HO.out]; exact tells_app (tells_if _ _ _) (tells_if _ _ _), news_app (news_app (news_nil _) (news_if _ _ _)) (news_if _ _ _)⟩, (CE.out _ hb9).2⟩

theorem implNow_2 (a : Option Addr) (n c : Nat) (k v : Int) (fs : List Int) (w : World) (hB : Base w a n fs) :
    Calls Tryz.prog 23 #[.iface 94 (OpV 2 k v), .slice a n c] w fun e w' => ComNew e w w' (nowL fs n 2 k v) ∧ Below w.heap.size w w' := by
  have HB : Hid (Base w a n fs) := hB
  clear hB
  have t1 : ∀ w : World, (Instr.typeAssert (.iface 94 (OpV 2 k v)) 56 93 true).run Tryz.prog w = .ok (.tuple #[OpV 0 0 0, .bool false]) w := fun w => by kernel_rfl
  have t2 : ∀ w : World, (Instr.typeAssert (.iface 94 (OpV 2 k v)) 56 94 true).run Tryz.prog w = .ok (.tuple #[OpV 2 k v, .bool true]) w := fun w => by kernel_rfl
  obtain ⟨r, hr⟩ : ∃ x, rd fs n (placeN 1 k) = x := ⟨_, rfl⟩
  have HR : Hid (rd fs n (placeN 1 k) = r) := hr
  clear hr
  obtain ⟨o, ho⟩ : ∃ x, rd fs n (placeN 2 v) = x := ⟨_, rfl⟩
  have HO : Hid (rd fs n (placeN 2 v) = o) := ho
  clear ho
  obtain ⟨W0, hW0⟩ : ∃ W0, W0 = w.alloc (.cells #[.int .i64 2, .int .i64 k, .int .i64 v] 94) := ⟨_, rfl⟩
  have hs0 : W0.heap.size = w.heap.size + 1 := by rw [hW0]; simp
  have CE : Hid (∀ w', Below (w.heap.size + 1) W0 w' → (w'.cell? ⟨w.heap.size, 1, none⟩ = some (.int .i64 k) ∧ w'.cell? ⟨w.heap.size, 2, none⟩ = some (.int .i64 v)) ∧ Below w.heap.size w w') := fun w' hb => by
    have hx : w'.heap[w.heap.size]? = some (.cells #[.int .i64 2, .int .i64 k, .int .i64 v] 94 (0, 0)) := (hb.block _ (by omega)).trans (by rw [hW0]; exact World.alloc_heap_new w _)
    exact ⟨⟨by simp [World.cell?, hx], by simp [World.cell?, hx]⟩, (show Below w.heap.size w W0 by rw [hW0]; exact (Below.refl _ _).alloc (Nat.le_refl _) _).trans (hb.mono (by omega))⟩
  have hb9 : Below (w.heap.size + 1) W0 W0 := Below.refl _ _
  go_enter Tryz.func23, Tryz.ntmps23
  go_wp2_with fail
  rw [← hW0]
  clear hW0
  refine (knownRow_any a n c k fs _ (HB.out.on (CE.out _ hb9).2).names (HB.out.on (CE.out _ hb9).2).pairs).mono ?_
  rintro e wr ⟨rfl, hbr⟩
  rw [HR.out]
  have hb9 : Below (w.heap.size + 1) W0 wr := hbr.mono (by omega)
  have hsr : w.heap.size + 1 ≤ wr.heap.size := by have h := hb9.size; omega
  clear hbr
  go_wp2_with fail
  go_region_held3 (fun w' => w'.cell? ⟨w.heap.size, 1, none⟩ = some (.int .i64 k) ∧ w'.cell? ⟨w.heap.size, 2, none⟩ = some (.int .i64 v))
      (first | (exact (CE.out _ hb9).1) | (exact (CE.out _ hb9.drew).1) | (exact (CE.out _ (hb9.alloc (by have h := hb9.size; omega) _)).1) | (exact (CE.out _ (hb9.alloc (by have h := hb9.size; omega) _).drew).1) | go_keep)
      (first
      | (go_at_call 65
         refine (or_if (w.heap.size + 1) W0 (o != 0) 2 _ _ _ _ ((([]) ++ ifV (r == 0) ((3 : Int), (.slice none 0 0 : Value))) ++ ifV (r == v) ((0 : Int), (.slice none 0 0 : Value))) _ C3.out (Nat.le_trans (app_len (app_len (Nat.le_refl 0))) (by decide)) hb9 (by omega)).mono ?_
         rintro e w4 ⟨v4, rfl, hc, _, hb8⟩
         have C4 : Hid (ComAt w4 (w.heap.size + 1) v4 (((([]) ++ ifV (r == 0) ((3 : Int), (.slice none 0 0 : Value))) ++ ifV (r == v) ((0 : Int), (.slice none 0 0 : Value))) ++ ifV (o != 0) ((2 : Int), (.slice none 0 0 : Value)))) := hc
         have hb9 : Below (w.heap.size + 1) W0 w4 := hb8
         clear hc)
      | (go_at_call 67
         refine (knownOwner_any a n c v fs _ (HB.out.on (CE.out _ hb9).2).names (HB.out.on (CE.out _ hb9).2).pairs).mono ?_
         rintro e w3 ⟨rfl, hb1⟩
         rw [HO.out]
         have C3 : Hid (ComAt w3 (w.heap.size + 1) (v2) ((([]) ++ ifV (r == 0) ((3 : Int), (.slice none 0 0 : Value))) ++ ifV (r == v) ((0 : Int), (.slice none 0 0 : Value)))) := com_kept C2.out hb1
         have hb9 : Below (w.heap.size + 1) W0 w3 := hb9.trans (hb1.mono (by have h := hb9.size; (try simp); omega))
         clear hb1)
      | (go_at_call 65
         refine (or_if (w.heap.size + 1) W0 (r == v) 0 _ _ _ _ (([]) ++ ifV (r == 0) ((3 : Int), (.slice none 0 0 : Value))) _ C1.out (Nat.le_trans (app_len (Nat.le_refl 0)) (by decide)) hb9 (by omega)).mono ?_
         rintro e w2 ⟨v2, rfl, hc, _, hb8⟩
         have C2 : Hid (ComAt w2 (w.heap.size + 1) v2 ((([]) ++ ifV (r == 0) ((3 : Int), (.slice none 0 0 : Value))) ++ ifV (r == v) ((0 : Int), (.slice none 0 0 : Value)))) := hc
         have hb9 : Below (w.heap.size + 1) W0 w2 := hb8
         clear hc)
      | (go_at_call 65
         refine (or_if (w.heap.size + 1) W0 (r == 0) 3 _ _ _ _ ([]) _ (by first | exact com_empty_drew rfl (by have := hb9.size; omega) | exact com_empty_at rfl (by have := hb9.size; omega)) (Nat.le_trans (Nat.le_refl 0) (by decide)) (hb9.alloc (by have h := hb9.size; omega) _).drew (by omega)).mono ?_
         rintro e w1 ⟨v1, rfl, hc, _, hb8⟩
         have C1 : Hid (ComAt w1 (w.heap.size + 1) v1 (([]) ++ ifV (r == 0) ((3 : Int), (.slice none 0 0 : Value)))) := hc
         have hb9 : Below (w.heap.size + 1) W0 w1 := hb8
         clear hc))
  all_goals
    go_wp2
    go_ret
    exact ⟨⟨_, _, rfl, own_weaken C4.out (by omega), by rw [nowL_2, HR.out, HO.out]; exact tells_app (tells_app (tells_if _ _ _) (tells_if _ _ _)) (tells_if _ _ _), news_app (news_app (news_app (news_nil _) (news_if _ _ _)) (news_if _ _ _)) (news_if _ _ _)⟩, (CE.out _ hb9).2⟩

def thenL (fs : List Int) (n : Nat) (kind v : Int) : List (Int × List Int) :=
  if kind = 7 then [(0, [rd fs n (placeN 1 0), rd fs n (placeN 1 1), rd fs n (placeN 1 2), rd fs n (placeN 1 3)])]
  else if kind = 10 then ifL (rd fs n (placeN 5 v) == 0) (3, []) ++ [(0, [wrap64 (rd fs n (placeN 5 v) - 1)])]
  else [(0, [])]
theorem knownVia_any (a : Option Addr) (n c : Nat) (k : Int) (fs : List Int) (w : World) (hN : Names w) (h : PairAt w a n fs) :
    Calls Tryz.prog 70 #[.slice a n c, .int .i64 k] w fun e w' => e = .returned (.int .i64 (rd fs n (placeN 5 k))) ∧ Below w.heap.size w w' := by
  have HP : Hid (Names w ∧ PairAt w a n fs) := ⟨hN, h⟩
  clear h hN
  go_enter Tryz.func70, Tryz.ntmps70
  go_wp2_with fail
  refine (implViaAt_any k _ HP.out.1).mono ?_
  rintro e w1 ⟨rfl, hb⟩
  go_wp2_with fail
  refine (knownAt_any a n c _ fs _ (HP.out.2.below hb (Nat.le_refl _))).mono ?_
  rintro e w2 ⟨rfl, hb2⟩
  go_wp2
  go_ret
  exact ⟨rfl, hb.trans (hb2.mono hb.size)⟩

theorem implThen_1 (a : Option Addr) (n c : Nat) (k v : Int) (fs : List Int) (w : World) (hB : Base w a n fs) :
    Calls Tryz.prog 24 #[.iface 93 (OpV 1 k v), .slice a n c] w fun e w' => ComNew e w w' (thenL fs n 1 v) ∧ Below w.heap.size w w' := by
  have HB : Hid (Base w a n fs) := hB
  clear hB
  have t7 : ∀ w : World, (Instr.typeAssert (.iface 93 (OpV 1 k v)) 56 99 true).run Tryz.prog w = .ok (.tuple #[OpV 0 0 0, .bool false]) w := fun w => by kernel_rfl
  have t10 : ∀ w : World, (Instr.typeAssert (.iface 93 (OpV 1 k v)) 56 102 true).run Tryz.prog w = .ok (.tuple #[OpV 0 0 0, .bool false]) w := fun w => by kernel_rfl
  have LO0 : Hid (Below w.heap.size w w) := Below.refl _ _
  have LO1 : Hid (Below w.heap.size w (w.alloc (.cells #[] 33))) := LO0.out.alloc LO0.out.size _
  have C1 : Hid (ComAt (w.alloc (.cells #[] 33)) w.heap.size (.slice (some ⟨w.heap.size, 0, none⟩) 0 0) []) := com_empty_at (by simp) (by have h := LO0.out.size; (try simp at h); omega)
  go_enter Tryz.func24, Tryz.ntmps24
  go_wp2_with fail
  (try simp only [World.size_alloc])
  refine (or_if w.heap.size w (true) 0 _ _ _ (.slice (some ⟨w.heap.size, 0, none⟩) 0 0) ([]) _ (by first | exact C1.out | (simpa using C1.out)) (Nat.le_trans (Nat.le_refl 0) (by decide)) LO1.out (Nat.le_refl _)).mono ?_
  rintro e w2 ⟨v2, rfl, hc, hg, hb⟩
  have C2 : Hid (ComAt w2 w.heap.size v2 (([]) ++ ifV (true) ((0 : Int), (.slice none 0 0 : Value)))) := hc
  have LO2 : Hid (Below w.heap.size w w2) := hb
  have G2 : Hid _ := hg
  clear hc hg hb
  go_wp2
  go_ret
  exact ⟨⟨_, _, rfl, C2.out, tells_1 _ _, news_app (news_nil _) (news_if _ _ _)⟩, LO2.out⟩

theorem implThen_2 (a : Option Addr) (n c : Nat) (k v : Int) (fs : List Int) (w : World) (hB : Base w a n fs) :
    Calls Tryz.prog 24 #[.iface 94 (OpV 2 k v), .slice a n c] w fun e w' => ComNew e w w' (thenL fs n 2 v) ∧ Below w.heap.size w w' := by
  have HB : Hid (Base w a n fs) := hB
  clear hB
  have t7 : ∀ w : World, (Instr.typeAssert (.iface 94 (OpV 2 k v)) 56 99 true).run Tryz.prog w = .ok (.tuple #[OpV 0 0 0, .bool false]) w := fun w => by kernel_rfl
  have t10 : ∀ w : World, (Instr.typeAssert (.iface 94 (OpV 2 k v)) 56 102 true).run Tryz.prog w = .ok (.tuple #[OpV 0 0 0, .bool false]) w := fun w => by kernel_rfl
  have LO0 : Hid (Below w.heap.size w w) := Below.refl _ _
  have LO1 : Hid (Below w.heap.size w (w.alloc (.cells #[] 33))) := LO0.out.alloc LO0.out.size _
  have C1 : Hid (ComAt (w.alloc (.cells #[] 33)) w.heap.size (.slice (some ⟨w.heap.size, 0, none⟩) 0 0) []) := com_empty_at (by simp) (by have h := LO0.out.size; (try simp at h); omega)
  go_enter Tryz.func24, Tryz.ntmps24
  go_wp2_with fail
  (try simp only [World.size_alloc])
  refine (or_if w.heap.size w (true) 0 _ _ _ (.slice (some ⟨w.heap.size, 0, none⟩) 0 0) ([]) _ (by first | exact C1.out | (simpa using C1.out)) (Nat.le_trans (Nat.le_refl 0) (by decide)) LO1.out (Nat.le_refl _)).mono ?_
  rintro e w2 ⟨v2, rfl, hc, hg, hb⟩
  have C2 : Hid (ComAt w2 w.heap.size v2 (([]) ++ ifV (true) ((0 : Int), (.slice none 0 0 : Value)))) := hc
  have LO2 : Hid (Below w.heap.size w w2) := hb
  have G2 : Hid _ := hg
  clear hc hg hb
  go_wp2
  go_ret
  exact ⟨⟨_, _, rfl, C2.out, tells_1 _ _, news_app (news_nil _) (news_if _ _ _)⟩, LO2.out⟩

theorem implThen_3 (a : Option Addr) (n c : Nat) (k v : Int) (fs : List Int) (w : World) (hB : Base w a n fs) :
    Calls Tryz.prog 24 #[.iface 95 (OpV 3 k v), .slice a n c] w fun e w' => ComNew e w w' (thenL fs n 3 v) ∧ Below w.heap.size w w' := by
  have HB : Hid (Base w a n fs) := hB
  clear hB
  have t7 : ∀ w : World, (Instr.typeAssert (.iface 95 (OpV 3 k v)) 56 99 true).run Tryz.prog w = .ok (.tuple #[OpV 0 0 0, .bool false]) w := fun w => by kernel_rfl
  have t10 : ∀ w : World, (Instr.typeAssert (.iface 95 (OpV 3 k v)) 56 102 true).run Tryz.prog w = .ok (.tuple #[OpV 0 0 0, .bool false]) w := fun w => by kernel_rfl
  have LO0 : Hid (Below w.heap.size w w) := Below.refl _ _
  have LO1 : Hid (Below w.heap.size w (w.alloc (.cells #[] 33))) := LO0.out.alloc LO0.out.size _
  have C1 : Hid (ComAt (w.alloc (.cells #[] 33)) w.heap.size (.slice (some ⟨w.heap.size, 0, none⟩) 0 0) []) := com_empty_at (by simp) (by have h := LO0.out.size; (try simp at h); omega)
  go_enter Tryz.func24, Tryz.ntmps24
  go_wp2_with fail
  (try simp only [World.size_alloc])
  refine (or_if w.heap.size w (true) 0 _ _ _ (.slice (some ⟨w.heap.size, 0, none⟩) 0 0) ([]) _ (by first | exact C1.out | (simpa using C1.out)) (Nat.le_trans (Nat.le_refl 0) (by decide)) LO1.out (Nat.le_refl _)).mono ?_
  rintro e w2 ⟨v2, rfl, hc, hg, hb⟩
  have C2 : Hid (ComAt w2 w.heap.size v2 (([]) ++ ifV (true) ((0 : Int), (.slice none 0 0 : Value)))) := hc
  have LO2 : Hid (Below w.heap.size w w2) := hb
  have G2 : Hid _ := hg
  clear hc hg hb
  go_wp2
  go_ret
  exact ⟨⟨_, _, rfl, C2.out, tells_1 _ _, news_app (news_nil _) (news_if _ _ _)⟩, LO2.out⟩

theorem implThen_8 (a : Option Addr) (n c : Nat) (k v : Int) (fs : List Int) (w : World) (hB : Base w a n fs) :
    Calls Tryz.prog 24 #[.iface 100 (OpV 8 k v), .slice a n c] w fun e w' => ComNew e w w' (thenL fs n 8 v) ∧ Below w.heap.size w w' := by
  have HB : Hid (Base w a n fs) := hB
  clear hB
  have t7 : ∀ w : World, (Instr.typeAssert (.iface 100 (OpV 8 k v)) 56 99 true).run Tryz.prog w = .ok (.tuple #[OpV 0 0 0, .bool false]) w := fun w => by kernel_rfl
  have t10 : ∀ w : World, (Instr.typeAssert (.iface 100 (OpV 8 k v)) 56 102 true).run Tryz.prog w = .ok (.tuple #[OpV 0 0 0, .bool false]) w := fun w => by kernel_rfl
  have LO0 : Hid (Below w.heap.size w w) := Below.refl _ _
  have LO1 : Hid (Below w.heap.size w (w.alloc (.cells #[] 33))) := LO0.out.alloc LO0.out.size _
  have C1 : Hid (ComAt (w.alloc (.cells #[] 33)) w.heap.size (.slice (some ⟨w.heap.size, 0, none⟩) 0 0) []) := com_empty_at (by simp) (by have h := LO0.out.size; (try simp at h); omega)
  go_enter Tryz.func24, Tryz.ntmps24
  go_wp2_with fail
  (try simp only [World.size_alloc])
  refine (or_if w.heap.size w (true) 0 _ _ _ (.slice (some ⟨w.heap.size, 0, none⟩) 0 0) ([]) _ (by first | exact C1.out | (simpa using C1.out)) (Nat.le_trans (Nat.le_refl 0) (by decide)) LO1.out (Nat.le_refl _)).mono ?_
  rintro e w2 ⟨v2, rfl, hc, hg, hb⟩
  have C2 : Hid (ComAt w2 w.heap.size v2 (([]) ++ ifV (true) ((0 : Int), (.slice none 0 0 : Value)))) := hc
  have LO2 : Hid (Below w.heap.size w w2) := hb
  have G2 : Hid _ := hg
  clear hc hg hb
  go_wp2
  go_ret
  exact ⟨⟨_, _, rfl, C2.out, tells_1 _ _, news_app (news_nil _) (news_if _ _ _)⟩, LO2.out⟩

theorem implThen_9 (a : Option Addr) (n c : Nat) (k v : Int) (fs : List Int) (w : World) (hB : Base w a n fs) :
    Calls Tryz.prog 24 #[.iface 101 (OpV 9 k v), .slice a n c] w fun e w' => ComNew e w w' (thenL fs n 9 v) ∧ Below w.heap.size w w' := by
  have HB : Hid (Base w a n fs) := hB
  clear hB
  have t7 : ∀ w : World, (Instr.typeAssert (.iface 101 (OpV 9 k v)) 56 99 true).run Tryz.prog w = .ok (.tuple #[OpV 0 0 0, .bool false]) w := fun w => by kernel_rfl
  have t10 : ∀ w : World, (Instr.typeAssert (.iface 101 (OpV 9 k v)) 56 102 true).run Tryz.prog w = .ok (.tuple #[OpV 0 0 0, .bool false]) w := fun w => by kernel_rfl
  have LO0 : Hid (Below w.heap.size w w) := Below.refl _ _
  have LO1 : Hid (Below w.heap.size w (w.alloc (.cells #[] 33))) := LO0.out.alloc LO0.out.size _
  have C1 : Hid (ComAt (w.alloc (.cells #[] 33)) w.heap.size (.slice (some ⟨w.heap.size, 0, none⟩) 0 0) []) := com_empty_at (by simp) (by have h := LO0.out.size; (try simp at h); omega)
  go_enter Tryz.func24, Tryz.ntmps24
  go_wp2_with fail
  (try simp only [World.size_alloc])
  refine (or_if w.heap.size w (true) 0 _ _ _ (.slice (some ⟨w.heap.size, 0, none⟩) 0 0) ([]) _ (by first | exact C1.out | (simpa using C1.out)) (Nat.le_trans (Nat.le_refl 0) (by decide)) LO1.out (Nat.le_refl _)).mono ?_
  rintro e w2 ⟨v2, rfl, hc, hg, hb⟩
  have C2 : Hid (ComAt w2 w.heap.size v2 (([]) ++ ifV (true) ((0 : Int), (.slice none 0 0 : Value)))) := hc
  have LO2 : Hid (Below w.heap.size w w2) := hb
  have G2 : Hid _ := hg
  clear hc hg hb
  go_wp2
  go_ret
  exact ⟨⟨_, _, rfl, C2.out, tells_1 _ _, news_app (news_nil _) (news_if _ _ _)⟩, LO2.out⟩

theorem implThen_10 (a : Option Addr) (n c : Nat) (k v : Int) (fs : List Int) (w : World) (hB : Base w a n fs) :
    Calls Tryz.prog 24 #[.iface 102 (OpV 10 k v), .slice a n c] w fun e w' => ComNew e w w' (thenL fs n 10 v) ∧ Below w.heap.size w w' := by
  have HB : Hid (Base w a n fs) := hB
  clear hB
  have t7 : ∀ w : World, (Instr.typeAssert (.iface 102 (OpV 10 k v)) 56 99 true).run Tryz.prog w = .ok (.tuple #[OpV 0 0 0, .bool false]) w := fun w => by kernel_rfl
  have t10 : ∀ w : World, (Instr.typeAssert (.iface 102 (OpV 10 k v)) 56 102 true).run Tryz.prog w = .ok (.tuple #[OpV 10 k v, .bool true]) w := fun w => by kernel_rfl
  have LO0 : Hid (Below w.heap.size w w) := Below.refl _ _
  have LO1 : Hid (Below w.heap.size w (w.alloc (.cells #[.int .i64 10, .int .i64 k, .int .i64 v] 102))) := LO0.out.alloc LO0.out.size _
  obtain ⟨r, hr⟩ : ∃ x, rd fs n (placeN 5 v) = x := ⟨_, rfl⟩
  have HR : Hid (rd fs n (placeN 5 v) = r) := hr
  clear hr
  go_enter Tryz.func24, Tryz.ntmps24
  go_wp2_with fail
  (try simp only [World.size_alloc])
  refine (knownVia_any a n c v fs _ (HB.out.on LO1.out).names (HB.out.on LO1.out).pairs).mono ?_
  rintro e w2 ⟨rfl, hb⟩
  have LO2 : Hid (Below w.heap.size w w2) := LO1.out.trans (hb.mono LO1.out.size)
  clear hb
  rw [HR.out]
  have LO3 : Hid (Below w.heap.size w (w2.alloc (.cells #[] 33))) := LO2.out.alloc LO2.out.size _
  have C3 : Hid (ComAt (w2.alloc (.cells #[] 33)) w.heap.size (.slice (some ⟨w2.heap.size, 0, none⟩) 0 0) []) := com_empty_at (by simp) (by have h := LO2.out.size; (try simp at h); omega)
  go_wp2_with fail
  (try simp only [World.size_alloc])
  refine (or_if w.heap.size w (r == 0) 3 _ _ _ (.slice (some ⟨w2.heap.size, 0, none⟩) 0 0) ([]) _ (by first | exact C3.out | (simpa using C3.out)) (Nat.le_trans (Nat.le_refl 0) (by decide)) LO3.out (Nat.le_refl _)).mono ?_
  rintro e w4 ⟨v4, rfl, hc, hg, hb⟩
  have C4 : Hid (ComAt w4 w.heap.size v4 (([]) ++ ifV (r == 0) ((3 : Int), (.slice none 0 0 : Value)))) := hc
  have LO4 : Hid (Below w.heap.size w w4) := hb
  have G4 : Hid _ := hg
  clear hc hg hb
  have LO5 : Hid (Below w.heap.size w (w4.alloc (.cells #[.int .i64 (wrap64 (r - 1))] 3))) := LO4.out.alloc LO4.out.size _
  have C5 : Hid (ComAt (w4.alloc (.cells #[.int .i64 (wrap64 (r - 1))] 3)) w.heap.size (v4) (([]) ++ ifV (r == 0) ((3 : Int), (.slice none 0 0 : Value)))) := C4.out.alloc _
  go_wp2_with fail
  (try rw [wrapEq])
  (try simp only [World.size_alloc])
  refine (or_if w.heap.size w (true) 0 _ _ _ (v4) (([]) ++ ifV (r == 0) ((3 : Int), (.slice none 0 0 : Value))) _ (by first | exact C5.out | (simpa using C5.out)) (Nat.le_trans (app_len (Nat.le_refl 0)) (by decide)) LO5.out (Nat.le_refl _)).mono ?_
  rintro e w6 ⟨v6, rfl, hc, hg, hb⟩
  have C6 : Hid (ComAt w6 w.heap.size v6 ((([]) ++ ifV (r == 0) ((3 : Int), (.slice none 0 0 : Value))) ++ ifV (true) ((0 : Int), (.slice (some ⟨w4.heap.size, 0, none⟩) 1 1 : Value)))) := hc
  have LO6 : Hid (Below w.heap.size w w6) := hb
  have G6 : Hid _ := hg
  clear hc hg hb
  go_wp2
  go_ret
  exact ⟨⟨_, _, rfl, C6.out, by rw [show thenL fs n 10 v = ifL (rd fs n (placeN 5 v) == 0) (3, []) ++ [(0, [wrap64 (rd fs n (placeN 5 v) - 1)])] by unfold thenL; rw [if_neg (by decide), if_pos rfl], HR.out]; exact tells_app (tells_if _ _ _) (told_one_below C4.out G6.out), news_app (news_app (news_nil _) (news_if _ _ _)) (news_told LO4.out.size _ _)⟩, LO6.out⟩

def heldJ (fs : List Int) (n j : Nat) : List Int := [if 0 < j then rd fs n (placeN 1 0) else 0, if 1 < j then rd fs n (placeN 1 1) else 0, if 2 < j then rd fs n (placeN 1 2) else 0, if 3 < j then rd fs n (placeN 1 3) else 0]
theorem heldJ_succ (fs : List Int) (n j : Nat) (h : j < 4) : heldJ fs n (j + 1) = (heldJ fs n j).set j (rd fs n (placeN 1 (j : Int))) := by
  rcases j with _ | _ | _ | _ | j
  · simp [heldJ]
  · simp [heldJ]
  · simp [heldJ]
  · simp [heldJ]
  · omega

theorem implThen_7 (a : Option Addr) (n c : Nat) (k v : Int) (fs : List Int) (w : World) (hB : Base w a n fs) :
    Calls Tryz.prog 24 #[.iface 99 (OpV 7 k v), .slice a n c] w fun e w' => ComNew e w w' (thenL fs n 7 v) ∧ Below w.heap.size w w' := by
  have HB : Hid (Base w a n fs) := hB
  clear hB
  have t7 : ∀ w : World, (Instr.typeAssert (.iface 99 (OpV 7 k v)) 56 99 true).run Tryz.prog w = .ok (.tuple #[OpV 7 k v, .bool true]) w := fun w => by kernel_rfl
  have hm : ∀ W : World, (Instr.makeSlice 24 (.int .i64 4) (.int .i64 4)).run Tryz.prog W = .ok (.slice (some ⟨W.heap.size, 0, none⟩) 4 4) (W.alloc (.cells #[.int .i64 0, .int .i64 0, .int .i64 0, .int .i64 0] 3)) := fun W => by kernel_rfl
  obtain ⟨W1, hW1⟩ : ∃ W1, w.alloc (.cells #[.int .i64 7, .int .i64 k, .int .i64 v] 99) = W1 := ⟨_, rfl⟩
  have B1 : Hid (Below w.heap.size w W1 ∧ W1.heap.size = w.heap.size + 1) := by rw [← hW1]; exact ⟨(Below.refl _ _).alloc (Nat.le_refl _) _, by simp⟩
  have I0 : Hid ((W1.alloc (.cells #[.int .i64 0, .int .i64 0, .int .i64 0, .int .i64 0] 3)).ownsRow (w.heap.size + 1) 3 1 (.slice (some ⟨w.heap.size + 1, 0, none⟩) 4 4) 4 ((heldJ fs n 0).map I) ∧ Below (w.heap.size + 1) W1 (W1.alloc (.cells #[.int .i64 0, .int .i64 0, .int .i64 0, .int .i64 0] 3))) :=
    ⟨⟨rfl, .inr ⟨w.heap.size + 1, 4, #[.int .i64 0, .int .i64 0, .int .i64 0, .int .i64 0], rfl, Nat.le_refl _, by rw [← B1.out.2]; exact World.alloc_heap_new W1 _, Nat.le_refl _, by unfold maxLen; omega, rfl, rfl⟩⟩, (Below.refl _ _).alloc (by rw [B1.out.2]; exact Nat.le_refl _) _⟩
  have LO : Hid (∀ {w' : World}, Below (w.heap.size + 1) W1 w' → Below w.heap.size w w') := fun hb => B1.out.1.trans (hb.mono (by omega))
  go_enter Tryz.func24, Tryz.ntmps24
  go_wp2_with fail
  rw [B1.out.2]
  go_loopw [17] (fun i wr => ∃ j : Nat, j ≤ 4 ∧ i = .int .i64 (j : Int) ∧ wr.ownsRow (w.heap.size + 1) 3 1 (.slice (some ⟨w.heap.size + 1, 0, none⟩) 4 4) 4 ((heldJ fs n j).map I) ∧ Below (w.heap.size + 1) W1 wr) (fun i _ => 4 - (intOf i).toNat)
  case atStart => exact ⟨0, by omega, rfl, I0.out⟩
  case round =>
    obtain ⟨j, hj, rfl, hs⟩ := hrel
    have HS : Hid (wr.ownsRow (w.heap.size + 1) 3 1 (.slice (some ⟨w.heap.size + 1, 0, none⟩) 4 4) 4 ((heldJ fs n j).map I) ∧ Below (w.heap.size + 1) W1 wr) := hs
    clear hs
    by_cases hlt : j < 4
    · have hl0 : (0 : Int) ≤ (j : Int) := by omega
      have hl1 : (j : Int) < 4 := by omega
      go_wp2_with fail
      refine (knownRow_any a n c (j : Int) fs _ (HB.out.on (LO.out HS.out.2)).names (HB.out.on (LO.out HS.out.2)).pairs).mono ?_
      rintro e w1 ⟨rfl, hb1⟩
      have H1 : Hid (w1.ownsRow (w.heap.size + 1) 3 1 (.slice (some ⟨w.heap.size + 1, 0, none⟩) 4 4) 4 ((heldJ fs n j).map I) ∧ Below (w.heap.size + 1) W1 w1) := ⟨HS.out.1.kept (row := none) (far_below hb1 none) (.inr (by simp [Value.ownBlock])), HS.out.2.trans (hb1.mono (by have h : w.heap.size + 1 < wr.heap.size := (HS.out.1.lt _ rfl).2; omega))⟩
      clear hb1
      obtain ⟨u0, hu⟩ := own_cell H1.out.1 hlt
      have hz := H1.out.1.frozenAt j
      go_wp2
      refine ⟨⟨j + 1, by omega, by go_num, ?_, ?_⟩, by simp [intOf]; omega⟩
      · rw [heldJ_succ fs n j hlt, List.map_set]
        exact (H1.out.1.stored j (I (rd fs n (placeN 1 (j : Int))))).1
      · exact H1.out.2.setCell (p := ⟨w.heap.size + 1, j, none⟩) (by simp) _
    · obtain rfl : j = 4 := by omega
      have hsz : w.heap.size + 1 < wr.heap.size := (HS.out.1.lt _ rfl).2
      have hb : Below (w.heap.size + 1) W1 (wr.alloc (.cells #[] 33)) := HS.out.2.alloc (by omega) _
      have HE : Hid (ComAt (wr.alloc (.cells #[] 33)) wr.heap.size (.slice (some ⟨wr.heap.size, 0, none⟩) 0 0) [] ∧ Below w.heap.size w (wr.alloc (.cells #[] 33)) ∧ w.heap.size + 1 < wr.heap.size ∧ (wr.alloc (.cells #[] 33)).ownsRow (w.heap.size + 1) 3 1 (.slice (some ⟨w.heap.size + 1, 0, none⟩) 4 4) 4 ((heldJ fs n 4).map I)) := ⟨com_empty (Nat.le_refl _), LO.out hb, hsz, HS.out.1.alloc _⟩
      clear hb hsz
      go_wp2_with fail
      refine (or_if wr.heap.size (wr.alloc (.cells #[] 33)) true 0 _ _ _ _ [] _ HE.out.1 (by decide) (Below.refl _ _) (by simp)).mono ?_
      rintro e w9 ⟨v9, rfl, hc, _, hb9⟩
      have H9 : Hid (ComAt w9 wr.heap.size v9 ([] ++ ifV true ((0 : Int), (.slice (some ⟨w.heap.size + 1, 0, none⟩) 4 4 : Value))) ∧ Below w.heap.size w w9 ∧ IntAt w9 (some ⟨w.heap.size + 1, 0, none⟩) 4 (heldJ fs n 4)) := ⟨hc, HE.out.2.1.trans (hb9.mono (by have h := HE.out.2.2.1; omega)), by
        have h1 := own_intAt HE.out.2.2.2 (by omega)
        obtain ⟨i1, i2, i3 | ⟨b, o, i3, i4⟩⟩ := h1
        · exact ⟨i1, i2, .inl i3⟩
        · refine ⟨i1, i2, .inr ⟨b, o, i3, fun i hi => ?_⟩⟩
          have h5 := i4 i hi
          cases i3
          rw [hb9.cell (show w.heap.size + 1 < wr.heap.size from HE.out.2.2.1)]
          exact h5⟩
      clear hc hb9
      go_wp2
      go_ret
      exact ⟨⟨_, _, rfl, own_weaken H9.out.1 (by have h := HE.out.2.2.1; omega), tells_l H9.out.2.2 0, news_app (news_nil _) (news_told (by omega) _ _)⟩, H9.out.2.1⟩
end
end Go.Proofs.YtenlapppaimkkabGreatDoor
