/- Texts joined: AllT, KeyOk, ValOk. -/
import Derived.Test.YtbfolanfbagofaaGreatDoorQA01
import Derived.Test.YtbfolanfbagofaaGreatDoorRows
import Derived.WalkKit
import Derived.ProofKit
set_option maxHeartbeats 4000000
set_option maxRecDepth 100000
namespace Go.Proofs.YtbfolanfbagofaaGreatDoor
section
open Go.ChangeShapes Go.WideShapes Go.ChangeAt Go.RowKit
def Enters (fn : FuncId) : Prop := ∀ (args : Array Value) (w : World), (callFunc fn args).run Tryz.prog w = .ok (.enter fn args) w
def LieOp (w : World) (a : Option Addr) (n : Nat) (x0 x1 x2 : Nat → Value) : Prop := n = 0 ∨ ∃ b o, a = some ⟨b, o, none⟩ ∧ ∀ j, j < n → w.cell? ⟨b, o + j * 3, none⟩ = some (x0 j) ∧ w.cell? ⟨b, o + j * 3 + 1, none⟩ = some (x1 j) ∧ w.cell? ⟨b, o + j * 3 + 2, none⟩ = some (x2 j)
theorem LieOp.below {w w' : World} {a : Option Addr} {n : Nat} {x0 x1 x2 : Nat → Value} (h : LieOp w a n x0 x1 x2) {B : Nat} (hb : Below B w w') (hB : w.heap.size ≤ B) : LieOp w' a n x0 x1 x2 := by
 rcases h with h | ⟨b, o, h1, h2⟩
 · exact .inl h
 · refine .inr ⟨b, o, h1, fun j hj => ?_⟩
   obtain ⟨e0, e1, e2⟩ := h2 j hj
   have hlt : b < B := Nat.lt_of_lt_of_le (World.block_lt_of_cell? w _ e0) hB
   exact ⟨(hb.cell (show b < B from hlt)).trans e0, (hb.cell (show b < B from hlt)).trans e1, (hb.cell (show b < B from hlt)).trans e2⟩
def TellsOp (fn : FuncId) (caps : Array Value) (n : Nat) (x0 x1 x2 : Nat → Value) (p : Nat → Bool) (w : World) : Prop := ∀ j, j < n → ∀ W, Below w.heap.size w W → Calls Tryz.prog fn (#[.agg #[x0 j, x1 j, x2 j]] ++ caps) W fun e w' => e = .returned (.bool (p j)) ∧ Below W.heap.size W w'
theorem TellsOp.on {fn : FuncId} {caps : Array Value} {n : Nat} {x0 x1 x2 : Nat → Value} {p : Nat → Bool} {w w' : World} (h : TellsOp fn caps n x0 x1 x2 p w) (hb : Below w.heap.size w w') : TellsOp fn caps n x0 x1 x2 p w' :=
 fun j hj W hW => h j hj W (hb.trans (hW.mono hb.size))
theorem notOp (g : Nat) (fn : FuncId) (caps : Array Value) (n : Nat) (x0 x1 x2 : Nat → Value) (p : Nat → Bool) (j : Nat) (hj : j < n) (w : World) (h : TellsOp fn caps n x0 x1 x2 p w) (hg : g < w.heap.size) (hc : w.cell? ⟨g, 0, none⟩ = some (.func (.func fn) #[] caps)) (hE : Enters fn) :
   Calls Tryz.prog 190 #[.agg #[x0 j, x1 j, x2 j], .pointer (some ⟨g, 0, none⟩)] w fun e w' => e = .returned (.bool !(p j)) ∧ Below w.heap.size w w' := by
 have H : Hid (TellsOp fn caps n x0 x1 x2 p w) := h
 have hE : ∀ (args : Array Value) (w : World), (callFunc fn args).run Tryz.prog w = .ok (.enter fn args) w := hE
 clear h
 go_enter Tryz.func190, Tryz.ntmps190
 go_wp2_with fail
 have hb0 : Below w.heap.size w (w.alloc (.cells #[x0 j, x1 j, x2 j] 81)) := (Below.refl _ w).alloc (Nat.le_refl _) _
 refine (H.out j hj _ hb0).mono ?_
 rintro e w1 ⟨rfl, hb1⟩
 have hb2 := hb0.trans (hb1.mono (by simp))
 clear hb0 hb1
 go_wp2
 go_ret
 exact ⟨rfl, hb2⟩
theorem indexOp (g : Nat) (fn : FuncId) (caps : Array Value) (a : Option Addr) (n c : Nat) (x0 x1 x2 : Nat → Value) (p : Nat → Bool) (w : World) (hn : n ≤ 2097152) (hA : LieOp w a n x0 x1 x2) (h : TellsOp fn caps n x0 x1 x2 p w) (hg : g < w.heap.size) (hc : w.cell? ⟨g, 0, none⟩ = some (.func (.func fn) #[] caps)) (hE : Enters fn) :
   Calls Tryz.prog 195 #[.slice a n c, .func (.func 190) #[] #[.pointer (some ⟨g, 0, none⟩)]] w fun e w' => ∃ r : Int, (e = .returned (.int .i64 r) ∧ (0 ≤ r ↔ ¬ ∀ j, j < n → p j = true)) ∧ Below w.heap.size w w' := by
 have HA : Hid (LieOp w a n x0 x1 x2) := hA
 have H : Hid (TellsOp fn caps n x0 x1 x2 p w) := h
 have HE : Hid (Enters fn) := hE
 have HC : Hid (w.cell? ⟨g, 0, none⟩ = some (.func (.func fn) #[] caps)) := hc
 clear hA h hE hc
 go_enter Tryz.func195, Tryz.ntmps195
 go_wp2
 go_loopw [8] (fun i wr => ∃ k : Nat, k ≤ n ∧ i = .int .i64 k ∧ (∀ j, j < k → p j = true) ∧ Below w.heap.size w wr) (fun i _ => n - (intOf i).toNat)
 case atStart => exact ⟨0, Nat.zero_le _, rfl, fun j hj => by omega, Below.refl _ _⟩
 case round =>
   obtain ⟨k, hk, rfl, hno, hbr⟩ := hrel
   have HNO : Hid (∀ j, j < k → p j = true) := hno
   clear hno
   by_cases hlt : k < n
   · rcases HA.out.below hbr (Nat.le_refl _) with h0 | ⟨p1, o1, rfl, g1⟩
     · omega
     have hk0 : (0 : Int) ≤ (k : Int) := by omega
     have hk1 : (k : Int) < (n : Int) := by omega
     obtain ⟨e0, e1, e2⟩ := g1 k hlt
     clear g1
     go_wp2_with fail
     have hlb : g < wr.heap.size := Nat.lt_of_lt_of_le hg hbr.size
     refine (notOp g fn caps n x0 x1 x2 p k hlt _ (H.out.on hbr) hlb ((hbr.cell (show g < w.heap.size from hg)).trans HC.out) HE.out).mono ?_
     rintro e w1 ⟨rfl, hb1⟩
     have hb2 := hbr.trans (hb1.mono hbr.size)
     clear hb1 e0 e1 e2
     rcases hp : p k with _ | _
     · have HV : Hid (¬ ∀ j, j < n → p j = true) := fun h => by have := h k hlt; rw [hp] at this; cases this
       clear hp
       go_wp2
       go_ret
       exact ⟨(k : Int), ⟨rfl, ⟨fun _ => HV.out, fun _ => by omega⟩⟩, hb2⟩
     · have HN : Hid (∀ j, j < k + 1 → p j = true) := fun j hj => by
         by_cases e : j = k
         · rw [e]; exact hp
         · exact HNO.out j (by omega)
       clear hp
       go_wp2
       exact ⟨⟨k + 1, by omega, by go_num, HN.out, hb2⟩, by simp [intOf]; omega⟩
   · obtain rfl : n = k := by omega
     go_wp2
     go_ret
     exact ⟨-1, ⟨rfl, ⟨fun h => by omega, fun h => absurd HNO.out h⟩⟩, hbr⟩
theorem containsOp (g : Nat) (fn : FuncId) (caps : Array Value) (a : Option Addr) (n c : Nat) (x0 x1 x2 : Nat → Value) (p : Nat → Bool) (w : World) (hn : n ≤ 2097152) (hA : LieOp w a n x0 x1 x2) (h : TellsOp fn caps n x0 x1 x2 p w) (hg : g < w.heap.size) (hc : w.cell? ⟨g, 0, none⟩ = some (.func (.func fn) #[] caps)) (hE : Enters fn) :
   Calls Tryz.prog 189 #[.slice a n c, .func (.func 190) #[] #[.pointer (some ⟨g, 0, none⟩)]] w fun e w' => ∃ b : Bool, (e = .returned (.bool b) ∧ (b = true ↔ ¬ ∀ j, j < n → p j = true)) ∧ Below w.heap.size w w' := by
 have HA : Hid (LieOp w a n x0 x1 x2) := hA
 have H : Hid (TellsOp fn caps n x0 x1 x2 p w) := h
 have HE : Hid (Enters fn) := hE
 have HC : Hid (w.cell? ⟨g, 0, none⟩ = some (.func (.func fn) #[] caps)) := hc
 clear hA h hE hc
 go_enter Tryz.func189, Tryz.ntmps189
 go_wp2_with fail
 refine (indexOp g fn caps a n c x0 x1 x2 p _ hn HA.out H.out hg HC.out HE.out).mono ?_
 rintro e w1 ⟨r, ⟨rfl, hr⟩, hb1⟩
 have HR : Hid (0 ≤ r ↔ ¬ ∀ j, j < n → p j = true) := hr
 have HB : Hid (Below w.heap.size w w1) := hb1
 clear hr hb1
 by_cases h0 : 0 ≤ r
 · have h0' : decide (0 ≤ r) = true := decide_eq_true h0
   go_wp2
   go_ret
   exact ⟨true, ⟨rfl, ⟨fun _ => HR.out.1 h0, fun _ => rfl⟩⟩, HB.out⟩
 · have h0' : decide (0 ≤ r) = false := decide_eq_false h0
   go_wp2
   go_ret
   exact ⟨false, ⟨rfl, ⟨(fun h => by cases h), fun h => absurd (HR.out.2 h) (by omega)⟩⟩, HB.out⟩
theorem allOp (fn : FuncId) (caps : Array Value) (a : Option Addr) (n c : Nat) (x0 x1 x2 : Nat → Value) (p : Nat → Bool) (w : World) (hn : n ≤ 2097152) (hA : LieOp w a n x0 x1 x2) (h : TellsOp fn caps n x0 x1 x2 p w) (hE : Enters fn) :
   Calls Tryz.prog 183 #[.slice a n c, .func (.func fn) #[] caps] w fun e w' => ∃ b : Bool, (e = .returned (.bool b) ∧ (b = true ↔ ∀ j, j < n → p j = true)) ∧ Below w.heap.size w w' := by
 have HA : Hid (LieOp w a n x0 x1 x2) := hA
 have H : Hid (TellsOp fn caps n x0 x1 x2 p w) := h
 have HE : Hid (Enters fn) := hE
 clear hA h hE
 go_enter Tryz.func183, Tryz.ntmps183
 go_wp2_with fail
 have hb0 : Below w.heap.size w (w.alloc (.cells #[.func (.func fn) #[] caps] 154)) := (Below.refl _ w).alloc (Nat.le_refl _) _
 have hx : (w.alloc (.cells #[.func (.func fn) #[] caps] 154)).cell? ⟨w.heap.size, 0, none⟩ = some (.func (.func fn) #[] caps) := (box_of w _ _).cell 0
 refine (containsOp w.heap.size fn caps a n c x0 x1 x2 p _ hn (HA.out.below hb0 (Nat.le_refl _)) (H.out.on hb0) (by simp) hx HE.out).mono ?_
 rintro e w1 ⟨r, ⟨rfl, hr⟩, hb1⟩
 have HR : Hid (r = true ↔ ¬ ∀ j, j < n → p j = true) := hr
 have HB : Hid (Below w.heap.size w w1) := hb0.trans (hb1.mono hb0.size)
 clear hr hb1 hb0 hx
 rcases r with _ | _
 · go_wp2
   go_ret
   exact ⟨true, ⟨rfl, ⟨(fun _ => Classical.byContradiction fun h => by have := HR.out.2 h; cases this), fun _ => rfl⟩⟩, HB.out⟩
 · go_wp2
   go_ret
   exact ⟨false, ⟨rfl, ⟨(fun h => by cases h), fun h => absurd h (HR.out.1 (by first | rfl | trivial))⟩⟩, HB.out⟩
def LiePair (w : World) (a : Option Addr) (n : Nat) (x0 x1 : Nat → Value) : Prop := n = 0 ∨ ∃ b o, a = some ⟨b, o, none⟩ ∧ ∀ j, j < n → w.cell? ⟨b, o + j * 2, none⟩ = some (x0 j) ∧ w.cell? ⟨b, o + j * 2 + 1, none⟩ = some (x1 j)
theorem LiePair.below {w w' : World} {a : Option Addr} {n : Nat} {x0 x1 : Nat → Value} (h : LiePair w a n x0 x1) {B : Nat} (hb : Below B w w') (hB : w.heap.size ≤ B) : LiePair w' a n x0 x1 := by
 rcases h with h | ⟨b, o, h1, h2⟩
 · exact .inl h
 · refine .inr ⟨b, o, h1, fun j hj => ?_⟩
   obtain ⟨e0, e1⟩ := h2 j hj
   have hlt : b < B := Nat.lt_of_lt_of_le (World.block_lt_of_cell? w _ e0) hB
   exact ⟨(hb.cell (show b < B from hlt)).trans e0, (hb.cell (show b < B from hlt)).trans e1⟩
def TellsPair (fn : FuncId) (caps : Array Value) (n : Nat) (x0 x1 : Nat → Value) (p : Nat → Bool) (w : World) : Prop := ∀ j, j < n → ∀ W, Below w.heap.size w W → Calls Tryz.prog fn (#[.agg #[x0 j, x1 j]] ++ caps) W fun e w' => e = .returned (.bool (p j)) ∧ Below W.heap.size W w'
theorem TellsPair.on {fn : FuncId} {caps : Array Value} {n : Nat} {x0 x1 : Nat → Value} {p : Nat → Bool} {w w' : World} (h : TellsPair fn caps n x0 x1 p w) (hb : Below w.heap.size w w') : TellsPair fn caps n x0 x1 p w' :=
 fun j hj W hW => h j hj W (hb.trans (hW.mono hb.size))
theorem notPair (g : Nat) (fn : FuncId) (caps : Array Value) (n : Nat) (x0 x1 : Nat → Value) (p : Nat → Bool) (j : Nat) (hj : j < n) (w : World) (h : TellsPair fn caps n x0 x1 p w) (hg : g < w.heap.size) (hc : w.cell? ⟨g, 0, none⟩ = some (.func (.func fn) #[] caps)) (hE : Enters fn) :
   Calls Tryz.prog 192 #[.agg #[x0 j, x1 j], .pointer (some ⟨g, 0, none⟩)] w fun e w' => e = .returned (.bool !(p j)) ∧ Below w.heap.size w w' := by
 have H : Hid (TellsPair fn caps n x0 x1 p w) := h
 have hE : ∀ (args : Array Value) (w : World), (callFunc fn args).run Tryz.prog w = .ok (.enter fn args) w := hE
 clear h
 go_enter Tryz.func192, Tryz.ntmps192
 go_wp2_with fail
 have hb0 : Below w.heap.size w (w.alloc (.cells #[x0 j, x1 j] 168)) := (Below.refl _ w).alloc (Nat.le_refl _) _
 refine (H.out j hj _ hb0).mono ?_
 rintro e w1 ⟨rfl, hb1⟩
 have hb2 := hb0.trans (hb1.mono (by simp))
 clear hb0 hb1
 go_wp2
 go_ret
 exact ⟨rfl, hb2⟩
theorem indexPair (g : Nat) (fn : FuncId) (caps : Array Value) (a : Option Addr) (n c : Nat) (x0 x1 : Nat → Value) (p : Nat → Bool) (w : World) (hn : n ≤ 2097152) (hA : LiePair w a n x0 x1) (h : TellsPair fn caps n x0 x1 p w) (hg : g < w.heap.size) (hc : w.cell? ⟨g, 0, none⟩ = some (.func (.func fn) #[] caps)) (hE : Enters fn) :
   Calls Tryz.prog 196 #[.slice a n c, .func (.func 192) #[] #[.pointer (some ⟨g, 0, none⟩)]] w fun e w' => ∃ r : Int, (e = .returned (.int .i64 r) ∧ (0 ≤ r ↔ ¬ ∀ j, j < n → p j = true)) ∧ Below w.heap.size w w' := by
 have HA : Hid (LiePair w a n x0 x1) := hA
 have H : Hid (TellsPair fn caps n x0 x1 p w) := h
 have HE : Hid (Enters fn) := hE
 have HC : Hid (w.cell? ⟨g, 0, none⟩ = some (.func (.func fn) #[] caps)) := hc
 clear hA h hE hc
 go_enter Tryz.func196, Tryz.ntmps196
 go_wp2
 go_loopw [8] (fun i wr => ∃ k : Nat, k ≤ n ∧ i = .int .i64 k ∧ (∀ j, j < k → p j = true) ∧ Below w.heap.size w wr) (fun i _ => n - (intOf i).toNat)
 case atStart => exact ⟨0, Nat.zero_le _, rfl, fun j hj => by omega, Below.refl _ _⟩
 case round =>
   obtain ⟨k, hk, rfl, hno, hbr⟩ := hrel
   have HNO : Hid (∀ j, j < k → p j = true) := hno
   clear hno
   by_cases hlt : k < n
   · rcases HA.out.below hbr (Nat.le_refl _) with h0 | ⟨p1, o1, rfl, g1⟩
     · omega
     have hk0 : (0 : Int) ≤ (k : Int) := by omega
     have hk1 : (k : Int) < (n : Int) := by omega
     obtain ⟨e0, e1⟩ := g1 k hlt
     clear g1
     go_wp2_with fail
     have hlb : g < wr.heap.size := Nat.lt_of_lt_of_le hg hbr.size
     refine (notPair g fn caps n x0 x1 p k hlt _ (H.out.on hbr) hlb ((hbr.cell (show g < w.heap.size from hg)).trans HC.out) HE.out).mono ?_
     rintro e w1 ⟨rfl, hb1⟩
     have hb2 := hbr.trans (hb1.mono hbr.size)
     clear hb1 e0 e1
     rcases hp : p k with _ | _
     · have HV : Hid (¬ ∀ j, j < n → p j = true) := fun h => by have := h k hlt; rw [hp] at this; cases this
       clear hp
       go_wp2
       go_ret
       exact ⟨(k : Int), ⟨rfl, ⟨fun _ => HV.out, fun _ => by omega⟩⟩, hb2⟩
     · have HN : Hid (∀ j, j < k + 1 → p j = true) := fun j hj => by
         by_cases e : j = k
         · rw [e]; exact hp
         · exact HNO.out j (by omega)
       clear hp
       go_wp2
       exact ⟨⟨k + 1, by omega, by go_num, HN.out, hb2⟩, by simp [intOf]; omega⟩
   · obtain rfl : n = k := by omega
     go_wp2
     go_ret
     exact ⟨-1, ⟨rfl, ⟨fun h => by omega, fun h => absurd HNO.out h⟩⟩, hbr⟩
theorem containsPair (g : Nat) (fn : FuncId) (caps : Array Value) (a : Option Addr) (n c : Nat) (x0 x1 : Nat → Value) (p : Nat → Bool) (w : World) (hn : n ≤ 2097152) (hA : LiePair w a n x0 x1) (h : TellsPair fn caps n x0 x1 p w) (hg : g < w.heap.size) (hc : w.cell? ⟨g, 0, none⟩ = some (.func (.func fn) #[] caps)) (hE : Enters fn) :
   Calls Tryz.prog 191 #[.slice a n c, .func (.func 192) #[] #[.pointer (some ⟨g, 0, none⟩)]] w fun e w' => ∃ b : Bool, (e = .returned (.bool b) ∧ (b = true ↔ ¬ ∀ j, j < n → p j = true)) ∧ Below w.heap.size w w' := by
 have HA : Hid (LiePair w a n x0 x1) := hA
 have H : Hid (TellsPair fn caps n x0 x1 p w) := h
 have HE : Hid (Enters fn) := hE
 have HC : Hid (w.cell? ⟨g, 0, none⟩ = some (.func (.func fn) #[] caps)) := hc
 clear hA h hE hc
 go_enter Tryz.func191, Tryz.ntmps191
 go_wp2_with fail
 refine (indexPair g fn caps a n c x0 x1 p _ hn HA.out H.out hg HC.out HE.out).mono ?_
 rintro e w1 ⟨r, ⟨rfl, hr⟩, hb1⟩
 have HR : Hid (0 ≤ r ↔ ¬ ∀ j, j < n → p j = true) := hr
 have HB : Hid (Below w.heap.size w w1) := hb1
 clear hr hb1
 by_cases h0 : 0 ≤ r
 · have h0' : decide (0 ≤ r) = true := decide_eq_true h0
   go_wp2
   go_ret
   exact ⟨true, ⟨rfl, ⟨fun _ => HR.out.1 h0, fun _ => rfl⟩⟩, HB.out⟩
 · have h0' : decide (0 ≤ r) = false := decide_eq_false h0
   go_wp2
   go_ret
   exact ⟨false, ⟨rfl, ⟨(fun h => by cases h), fun h => absurd (HR.out.2 h) (by omega)⟩⟩, HB.out⟩
theorem allPair (fn : FuncId) (caps : Array Value) (a : Option Addr) (n c : Nat) (x0 x1 : Nat → Value) (p : Nat → Bool) (w : World) (hn : n ≤ 2097152) (hA : LiePair w a n x0 x1) (h : TellsPair fn caps n x0 x1 p w) (hE : Enters fn) :
   Calls Tryz.prog 184 #[.slice a n c, .func (.func fn) #[] caps] w fun e w' => ∃ b : Bool, (e = .returned (.bool b) ∧ (b = true ↔ ∀ j, j < n → p j = true)) ∧ Below w.heap.size w w' := by
 have HA : Hid (LiePair w a n x0 x1) := hA
 have H : Hid (TellsPair fn caps n x0 x1 p w) := h
 have HE : Hid (Enters fn) := hE
 clear hA h hE
 go_enter Tryz.func184, Tryz.ntmps184
 go_wp2_with fail
 have hb0 : Below w.heap.size w (w.alloc (.cells #[.func (.func fn) #[] caps] 253)) := (Below.refl _ w).alloc (Nat.le_refl _) _
 have hx : (w.alloc (.cells #[.func (.func fn) #[] caps] 253)).cell? ⟨w.heap.size, 0, none⟩ = some (.func (.func fn) #[] caps) := (box_of w _ _).cell 0
 refine (containsPair w.heap.size fn caps a n c x0 x1 p _ hn (HA.out.below hb0 (Nat.le_refl _)) (H.out.on hb0) (by simp) hx HE.out).mono ?_
 rintro e w1 ⟨r, ⟨rfl, hr⟩, hb1⟩
 have HR : Hid (r = true ↔ ¬ ∀ j, j < n → p j = true) := hr
 have HB : Hid (Below w.heap.size w w1) := hb0.trans (hb1.mono hb0.size)
 clear hr hb1 hb0 hx
 rcases r with _ | _
 · go_wp2
   go_ret
   exact ⟨true, ⟨rfl, ⟨(fun _ => Classical.byContradiction fun h => by have := HR.out.2 h; cases this), fun _ => rfl⟩⟩, HB.out⟩
 · go_wp2
   go_ret
   exact ⟨false, ⟨rfl, ⟨(fun h => by cases h), fun h => absurd h (HR.out.1 (by first | rfl | trivial))⟩⟩, HB.out⟩
def LieHelp (w : World) (a : Option Addr) (n : Nat) (x0 x1 x2 x3 : Nat → Value) : Prop := n = 0 ∨ ∃ b o, a = some ⟨b, o, none⟩ ∧ ∀ j, j < n → w.cell? ⟨b, o + j * 4, none⟩ = some (x0 j) ∧ w.cell? ⟨b, o + j * 4 + 1, none⟩ = some (x1 j) ∧ w.cell? ⟨b, o + j * 4 + 2, none⟩ = some (x2 j) ∧ w.cell? ⟨b, o + j * 4 + 3, none⟩ = some (x3 j)
theorem LieHelp.below {w w' : World} {a : Option Addr} {n : Nat} {x0 x1 x2 x3 : Nat → Value} (h : LieHelp w a n x0 x1 x2 x3) {B : Nat} (hb : Below B w w') (hB : w.heap.size ≤ B) : LieHelp w' a n x0 x1 x2 x3 := by
 rcases h with h | ⟨b, o, h1, h2⟩
 · exact .inl h
 · refine .inr ⟨b, o, h1, fun j hj => ?_⟩
   obtain ⟨e0, e1, e2, e3⟩ := h2 j hj
   have hlt : b < B := Nat.lt_of_lt_of_le (World.block_lt_of_cell? w _ e0) hB
   exact ⟨(hb.cell (show b < B from hlt)).trans e0, (hb.cell (show b < B from hlt)).trans e1, (hb.cell (show b < B from hlt)).trans e2, (hb.cell (show b < B from hlt)).trans e3⟩
def TellsHelp (fn : FuncId) (caps : Array Value) (n : Nat) (x0 x1 x2 x3 : Nat → Value) (p : Nat → Bool) (w : World) : Prop := ∀ j, j < n → ∀ W, Below w.heap.size w W → Calls Tryz.prog fn (#[.agg #[x0 j, x1 j, x2 j, x3 j]] ++ caps) W fun e w' => e = .returned (.bool (p j)) ∧ Below W.heap.size W w'
theorem TellsHelp.on {fn : FuncId} {caps : Array Value} {n : Nat} {x0 x1 x2 x3 : Nat → Value} {p : Nat → Bool} {w w' : World} (h : TellsHelp fn caps n x0 x1 x2 x3 p w) (hb : Below w.heap.size w w') : TellsHelp fn caps n x0 x1 x2 x3 p w' :=
 fun j hj W hW => h j hj W (hb.trans (hW.mono hb.size))
theorem notHelp (g : Nat) (fn : FuncId) (caps : Array Value) (n : Nat) (x0 x1 x2 x3 : Nat → Value) (p : Nat → Bool) (j : Nat) (hj : j < n) (w : World) (h : TellsHelp fn caps n x0 x1 x2 x3 p w) (hg : g < w.heap.size) (hc : w.cell? ⟨g, 0, none⟩ = some (.func (.func fn) #[] caps)) (hE : Enters fn) :
   Calls Tryz.prog 194 #[.agg #[x0 j, x1 j, x2 j, x3 j], .pointer (some ⟨g, 0, none⟩)] w fun e w' => e = .returned (.bool !(p j)) ∧ Below w.heap.size w w' := by
 have H : Hid (TellsHelp fn caps n x0 x1 x2 x3 p w) := h
 have hE : ∀ (args : Array Value) (w : World), (callFunc fn args).run Tryz.prog w = .ok (.enter fn args) w := hE
 clear h
 go_enter Tryz.func194, Tryz.ntmps194
 go_wp2_with fail
 have hb0 : Below w.heap.size w (w.alloc (.cells #[x0 j, x1 j, x2 j, x3 j] 170)) := (Below.refl _ w).alloc (Nat.le_refl _) _
 refine (H.out j hj _ hb0).mono ?_
 rintro e w1 ⟨rfl, hb1⟩
 have hb2 := hb0.trans (hb1.mono (by simp))
 clear hb0 hb1
 go_wp2
 go_ret
 exact ⟨rfl, hb2⟩
theorem indexHelp (g : Nat) (fn : FuncId) (caps : Array Value) (a : Option Addr) (n c : Nat) (x0 x1 x2 x3 : Nat → Value) (p : Nat → Bool) (w : World) (hn : n ≤ 2097152) (hA : LieHelp w a n x0 x1 x2 x3) (h : TellsHelp fn caps n x0 x1 x2 x3 p w) (hg : g < w.heap.size) (hc : w.cell? ⟨g, 0, none⟩ = some (.func (.func fn) #[] caps)) (hE : Enters fn) :
   Calls Tryz.prog 197 #[.slice a n c, .func (.func 194) #[] #[.pointer (some ⟨g, 0, none⟩)]] w fun e w' => ∃ r : Int, (e = .returned (.int .i64 r) ∧ (0 ≤ r ↔ ¬ ∀ j, j < n → p j = true)) ∧ Below w.heap.size w w' := by
 have HA : Hid (LieHelp w a n x0 x1 x2 x3) := hA
 have H : Hid (TellsHelp fn caps n x0 x1 x2 x3 p w) := h
 have HE : Hid (Enters fn) := hE
 have HC : Hid (w.cell? ⟨g, 0, none⟩ = some (.func (.func fn) #[] caps)) := hc
 clear hA h hE hc
 go_enter Tryz.func197, Tryz.ntmps197
 go_wp2
 go_loopw [8] (fun i wr => ∃ k : Nat, k ≤ n ∧ i = .int .i64 k ∧ (∀ j, j < k → p j = true) ∧ Below w.heap.size w wr) (fun i _ => n - (intOf i).toNat)
 case atStart => exact ⟨0, Nat.zero_le _, rfl, fun j hj => by omega, Below.refl _ _⟩
 case round =>
   obtain ⟨k, hk, rfl, hno, hbr⟩ := hrel
   have HNO : Hid (∀ j, j < k → p j = true) := hno
   clear hno
   by_cases hlt : k < n
   · rcases HA.out.below hbr (Nat.le_refl _) with h0 | ⟨p1, o1, rfl, g1⟩
     · omega
     have hk0 : (0 : Int) ≤ (k : Int) := by omega
     have hk1 : (k : Int) < (n : Int) := by omega
     obtain ⟨e0, e1, e2, e3⟩ := g1 k hlt
     clear g1
     go_wp2_with fail
     have hlb : g < wr.heap.size := Nat.lt_of_lt_of_le hg hbr.size
     refine (notHelp g fn caps n x0 x1 x2 x3 p k hlt _ (H.out.on hbr) hlb ((hbr.cell (show g < w.heap.size from hg)).trans HC.out) HE.out).mono ?_
     rintro e w1 ⟨rfl, hb1⟩
     have hb2 := hbr.trans (hb1.mono hbr.size)
     clear hb1 e0 e1 e2 e3
     rcases hp : p k with _ | _
     · have HV : Hid (¬ ∀ j, j < n → p j = true) := fun h => by have := h k hlt; rw [hp] at this; cases this
       clear hp
       go_wp2
       go_ret
       exact ⟨(k : Int), ⟨rfl, ⟨fun _ => HV.out, fun _ => by omega⟩⟩, hb2⟩
     · have HN : Hid (∀ j, j < k + 1 → p j = true) := fun j hj => by
         by_cases e : j = k
         · rw [e]; exact hp
         · exact HNO.out j (by omega)
       clear hp
       go_wp2
       exact ⟨⟨k + 1, by omega, by go_num, HN.out, hb2⟩, by simp [intOf]; omega⟩
   · obtain rfl : n = k := by omega
     go_wp2
     go_ret
     exact ⟨-1, ⟨rfl, ⟨fun h => by omega, fun h => absurd HNO.out h⟩⟩, hbr⟩
theorem containsHelp (g : Nat) (fn : FuncId) (caps : Array Value) (a : Option Addr) (n c : Nat) (x0 x1 x2 x3 : Nat → Value) (p : Nat → Bool) (w : World) (hn : n ≤ 2097152) (hA : LieHelp w a n x0 x1 x2 x3) (h : TellsHelp fn caps n x0 x1 x2 x3 p w) (hg : g < w.heap.size) (hc : w.cell? ⟨g, 0, none⟩ = some (.func (.func fn) #[] caps)) (hE : Enters fn) :
   Calls Tryz.prog 193 #[.slice a n c, .func (.func 194) #[] #[.pointer (some ⟨g, 0, none⟩)]] w fun e w' => ∃ b : Bool, (e = .returned (.bool b) ∧ (b = true ↔ ¬ ∀ j, j < n → p j = true)) ∧ Below w.heap.size w w' := by
 have HA : Hid (LieHelp w a n x0 x1 x2 x3) := hA
 have H : Hid (TellsHelp fn caps n x0 x1 x2 x3 p w) := h
 have HE : Hid (Enters fn) := hE
 have HC : Hid (w.cell? ⟨g, 0, none⟩ = some (.func (.func fn) #[] caps)) := hc
 clear hA h hE hc
 go_enter Tryz.func193, Tryz.ntmps193
 go_wp2_with fail
 refine (indexHelp g fn caps a n c x0 x1 x2 x3 p _ hn HA.out H.out hg HC.out HE.out).mono ?_
 rintro e w1 ⟨r, ⟨rfl, hr⟩, hb1⟩
 have HR : Hid (0 ≤ r ↔ ¬ ∀ j, j < n → p j = true) := hr
 have HB : Hid (Below w.heap.size w w1) := hb1
 clear hr hb1
 by_cases h0 : 0 ≤ r
 · have h0' : decide (0 ≤ r) = true := decide_eq_true h0
   go_wp2
   go_ret
   exact ⟨true, ⟨rfl, ⟨fun _ => HR.out.1 h0, fun _ => rfl⟩⟩, HB.out⟩
 · have h0' : decide (0 ≤ r) = false := decide_eq_false h0
   go_wp2
   go_ret
   exact ⟨false, ⟨rfl, ⟨(fun h => by cases h), fun h => absurd (HR.out.2 h) (by omega)⟩⟩, HB.out⟩
theorem allHelp (fn : FuncId) (caps : Array Value) (a : Option Addr) (n c : Nat) (x0 x1 x2 x3 : Nat → Value) (p : Nat → Bool) (w : World) (hn : n ≤ 2097152) (hA : LieHelp w a n x0 x1 x2 x3) (h : TellsHelp fn caps n x0 x1 x2 x3 p w) (hE : Enters fn) :
   Calls Tryz.prog 186 #[.slice a n c, .func (.func fn) #[] caps] w fun e w' => ∃ b : Bool, (e = .returned (.bool b) ∧ (b = true ↔ ∀ j, j < n → p j = true)) ∧ Below w.heap.size w w' := by
 have HA : Hid (LieHelp w a n x0 x1 x2 x3) := hA
 have H : Hid (TellsHelp fn caps n x0 x1 x2 x3 p w) := h
 have HE : Hid (Enters fn) := hE
 clear hA h hE
 go_enter Tryz.func186, Tryz.ntmps186
 go_wp2_with fail
 have hb0 : Below w.heap.size w (w.alloc (.cells #[.func (.func fn) #[] caps] 255)) := (Below.refl _ w).alloc (Nat.le_refl _) _
 have hx : (w.alloc (.cells #[.func (.func fn) #[] caps] 255)).cell? ⟨w.heap.size, 0, none⟩ = some (.func (.func fn) #[] caps) := (box_of w _ _).cell 0
 refine (containsHelp w.heap.size fn caps a n c x0 x1 x2 x3 p _ hn (HA.out.below hb0 (Nat.le_refl _)) (H.out.on hb0) (by simp) hx HE.out).mono ?_
 rintro e w1 ⟨r, ⟨rfl, hr⟩, hb1⟩
 have HR : Hid (r = true ↔ ¬ ∀ j, j < n → p j = true) := hr
 have HB : Hid (Below w.heap.size w w1) := hb0.trans (hb1.mono hb0.size)
 clear hr hb1 hb0 hx
 rcases r with _ | _
 · go_wp2
   go_ret
   exact ⟨true, ⟨rfl, ⟨(fun _ => Classical.byContradiction fun h => by have := HR.out.2 h; cases this), fun _ => rfl⟩⟩, HB.out⟩
 · go_wp2
   go_ret
   exact ⟨false, ⟨rfl, ⟨(fun h => by cases h), fun h => absurd h (HR.out.1 (by first | rfl | trivial))⟩⟩, HB.out⟩
def LieThread (w : World) (a : Option Addr) (n : Nat) (x0 x1 x2 x3 x4 : Nat → Value) : Prop := n = 0 ∨ ∃ b o, a = some ⟨b, o, none⟩ ∧ ∀ j, j < n → w.cell? ⟨b, o + j * 5, none⟩ = some (x0 j) ∧ w.cell? ⟨b, o + j * 5 + 1, none⟩ = some (x1 j) ∧ w.cell? ⟨b, o + j * 5 + 2, none⟩ = some (x2 j) ∧ w.cell? ⟨b, o + j * 5 + 3, none⟩ = some (x3 j) ∧ w.cell? ⟨b, o + j * 5 + 4, none⟩ = some (x4 j)
theorem LieThread.below {w w' : World} {a : Option Addr} {n : Nat} {x0 x1 x2 x3 x4 : Nat → Value} (h : LieThread w a n x0 x1 x2 x3 x4) {B : Nat} (hb : Below B w w') (hB : w.heap.size ≤ B) : LieThread w' a n x0 x1 x2 x3 x4 := by
 rcases h with h | ⟨b, o, h1, h2⟩
 · exact .inl h
 · refine .inr ⟨b, o, h1, fun j hj => ?_⟩
   obtain ⟨e0, e1, e2, e3, e4⟩ := h2 j hj
   have hlt : b < B := Nat.lt_of_lt_of_le (World.block_lt_of_cell? w _ e0) hB
   exact ⟨(hb.cell (show b < B from hlt)).trans e0, (hb.cell (show b < B from hlt)).trans e1, (hb.cell (show b < B from hlt)).trans e2, (hb.cell (show b < B from hlt)).trans e3, (hb.cell (show b < B from hlt)).trans e4⟩
def TellsThread (fn : FuncId) (caps : Array Value) (n : Nat) (x0 x1 x2 x3 x4 : Nat → Value) (p : Nat → Bool) (w : World) : Prop := ∀ j, j < n → ∀ W, Below w.heap.size w W → Calls Tryz.prog fn (#[.agg #[x0 j, x1 j, x2 j, x3 j, x4 j]] ++ caps) W fun e w' => e = .returned (.bool (p j)) ∧ Below W.heap.size W w'
theorem TellsThread.on {fn : FuncId} {caps : Array Value} {n : Nat} {x0 x1 x2 x3 x4 : Nat → Value} {p : Nat → Bool} {w w' : World} (h : TellsThread fn caps n x0 x1 x2 x3 x4 p w) (hb : Below w.heap.size w w') : TellsThread fn caps n x0 x1 x2 x3 x4 p w' :=
 fun j hj W hW => h j hj W (hb.trans (hW.mono hb.size))
theorem notThread (g : Nat) (fn : FuncId) (caps : Array Value) (n : Nat) (x0 x1 x2 x3 x4 : Nat → Value) (p : Nat → Bool) (j : Nat) (hj : j < n) (w : World) (h : TellsThread fn caps n x0 x1 x2 x3 x4 p w) (hg : g < w.heap.size) (hc : w.cell? ⟨g, 0, none⟩ = some (.func (.func fn) #[] caps)) (hE : Enters fn) :
   Calls Tryz.prog 173 #[.agg #[x0 j, x1 j, x2 j, x3 j, x4 j], .pointer (some ⟨g, 0, none⟩)] w fun e w' => e = .returned (.bool !(p j)) ∧ Below w.heap.size w w' := by
 have H : Hid (TellsThread fn caps n x0 x1 x2 x3 x4 p w) := h
 have hE : ∀ (args : Array Value) (w : World), (callFunc fn args).run Tryz.prog w = .ok (.enter fn args) w := hE
 clear h
 go_enter Tryz.func173, Tryz.ntmps173
 go_wp2_with fail
 have hb0 : Below w.heap.size w (w.alloc (.cells #[x0 j, x1 j, x2 j, x3 j, x4 j] 92)) := (Below.refl _ w).alloc (Nat.le_refl _) _
 refine (H.out j hj _ hb0).mono ?_
 rintro e w1 ⟨rfl, hb1⟩
 have hb2 := hb0.trans (hb1.mono (by simp))
 clear hb0 hb1
 go_wp2
 go_ret
 exact ⟨rfl, hb2⟩
theorem indexThread (g : Nat) (fn : FuncId) (caps : Array Value) (a : Option Addr) (n c : Nat) (x0 x1 x2 x3 x4 : Nat → Value) (p : Nat → Bool) (w : World) (hn : n ≤ 2097152) (hA : LieThread w a n x0 x1 x2 x3 x4) (h : TellsThread fn caps n x0 x1 x2 x3 x4 p w) (hg : g < w.heap.size) (hc : w.cell? ⟨g, 0, none⟩ = some (.func (.func fn) #[] caps)) (hE : Enters fn) :
   Calls Tryz.prog 182 #[.slice a n c, .func (.func 173) #[] #[.pointer (some ⟨g, 0, none⟩)]] w fun e w' => ∃ r : Int, (e = .returned (.int .i64 r) ∧ (0 ≤ r ↔ ¬ ∀ j, j < n → p j = true)) ∧ Below w.heap.size w w' := by
 have HA : Hid (LieThread w a n x0 x1 x2 x3 x4) := hA
 have H : Hid (TellsThread fn caps n x0 x1 x2 x3 x4 p w) := h
 have HE : Hid (Enters fn) := hE
 have HC : Hid (w.cell? ⟨g, 0, none⟩ = some (.func (.func fn) #[] caps)) := hc
 clear hA h hE hc
 go_enter Tryz.func182, Tryz.ntmps182
 go_wp2
 go_loopw [8] (fun i wr => ∃ k : Nat, k ≤ n ∧ i = .int .i64 k ∧ (∀ j, j < k → p j = true) ∧ Below w.heap.size w wr) (fun i _ => n - (intOf i).toNat)
 case atStart => exact ⟨0, Nat.zero_le _, rfl, fun j hj => by omega, Below.refl _ _⟩
 case round =>
   obtain ⟨k, hk, rfl, hno, hbr⟩ := hrel
   have HNO : Hid (∀ j, j < k → p j = true) := hno
   clear hno
   by_cases hlt : k < n
   · rcases HA.out.below hbr (Nat.le_refl _) with h0 | ⟨p1, o1, rfl, g1⟩
     · omega
     have hk0 : (0 : Int) ≤ (k : Int) := by omega
     have hk1 : (k : Int) < (n : Int) := by omega
     obtain ⟨e0, e1, e2, e3, e4⟩ := g1 k hlt
     clear g1
     go_wp2_with fail
     have hlb : g < wr.heap.size := Nat.lt_of_lt_of_le hg hbr.size
     refine (notThread g fn caps n x0 x1 x2 x3 x4 p k hlt _ (H.out.on hbr) hlb ((hbr.cell (show g < w.heap.size from hg)).trans HC.out) HE.out).mono ?_
     rintro e w1 ⟨rfl, hb1⟩
     have hb2 := hbr.trans (hb1.mono hbr.size)
     clear hb1 e0 e1 e2 e3 e4
     rcases hp : p k with _ | _
     · have HV : Hid (¬ ∀ j, j < n → p j = true) := fun h => by have := h k hlt; rw [hp] at this; cases this
       clear hp
       go_wp2
       go_ret
       exact ⟨(k : Int), ⟨rfl, ⟨fun _ => HV.out, fun _ => by omega⟩⟩, hb2⟩
     · have HN : Hid (∀ j, j < k + 1 → p j = true) := fun j hj => by
         by_cases e : j = k
         · rw [e]; exact hp
         · exact HNO.out j (by omega)
       clear hp
       go_wp2
       exact ⟨⟨k + 1, by omega, by go_num, HN.out, hb2⟩, by simp [intOf]; omega⟩
   · obtain rfl : n = k := by omega
     go_wp2
     go_ret
     exact ⟨-1, ⟨rfl, ⟨fun h => by omega, fun h => absurd HNO.out h⟩⟩, hbr⟩
theorem containsThread (g : Nat) (fn : FuncId) (caps : Array Value) (a : Option Addr) (n c : Nat) (x0 x1 x2 x3 x4 : Nat → Value) (p : Nat → Bool) (w : World) (hn : n ≤ 2097152) (hA : LieThread w a n x0 x1 x2 x3 x4) (h : TellsThread fn caps n x0 x1 x2 x3 x4 p w) (hg : g < w.heap.size) (hc : w.cell? ⟨g, 0, none⟩ = some (.func (.func fn) #[] caps)) (hE : Enters fn) :
   Calls Tryz.prog 172 #[.slice a n c, .func (.func 173) #[] #[.pointer (some ⟨g, 0, none⟩)]] w fun e w' => ∃ b : Bool, (e = .returned (.bool b) ∧ (b = true ↔ ¬ ∀ j, j < n → p j = true)) ∧ Below w.heap.size w w' := by
 have HA : Hid (LieThread w a n x0 x1 x2 x3 x4) := hA
 have H : Hid (TellsThread fn caps n x0 x1 x2 x3 x4 p w) := h
 have HE : Hid (Enters fn) := hE
 have HC : Hid (w.cell? ⟨g, 0, none⟩ = some (.func (.func fn) #[] caps)) := hc
 clear hA h hE hc
 go_enter Tryz.func172, Tryz.ntmps172
 go_wp2_with fail
 refine (indexThread g fn caps a n c x0 x1 x2 x3 x4 p _ hn HA.out H.out hg HC.out HE.out).mono ?_
 rintro e w1 ⟨r, ⟨rfl, hr⟩, hb1⟩
 have HR : Hid (0 ≤ r ↔ ¬ ∀ j, j < n → p j = true) := hr
 have HB : Hid (Below w.heap.size w w1) := hb1
 clear hr hb1
 by_cases h0 : 0 ≤ r
 · have h0' : decide (0 ≤ r) = true := decide_eq_true h0
   go_wp2
   go_ret
   exact ⟨true, ⟨rfl, ⟨fun _ => HR.out.1 h0, fun _ => rfl⟩⟩, HB.out⟩
 · have h0' : decide (0 ≤ r) = false := decide_eq_false h0
   go_wp2
   go_ret
   exact ⟨false, ⟨rfl, ⟨(fun h => by cases h), fun h => absurd (HR.out.2 h) (by omega)⟩⟩, HB.out⟩
theorem allThread (fn : FuncId) (caps : Array Value) (a : Option Addr) (n c : Nat) (x0 x1 x2 x3 x4 : Nat → Value) (p : Nat → Bool) (w : World) (hn : n ≤ 2097152) (hA : LieThread w a n x0 x1 x2 x3 x4) (h : TellsThread fn caps n x0 x1 x2 x3 x4 p w) (hE : Enters fn) :
   Calls Tryz.prog 153 #[.slice a n c, .func (.func fn) #[] caps] w fun e w' => ∃ b : Bool, (e = .returned (.bool b) ∧ (b = true ↔ ∀ j, j < n → p j = true)) ∧ Below w.heap.size w w' := by
 have HA : Hid (LieThread w a n x0 x1 x2 x3 x4) := hA
 have H : Hid (TellsThread fn caps n x0 x1 x2 x3 x4 p w) := h
 have HE : Hid (Enters fn) := hE
 clear hA h hE
 go_enter Tryz.func153, Tryz.ntmps153
 go_wp2_with fail
 have hb0 : Below w.heap.size w (w.alloc (.cells #[.func (.func fn) #[] caps] 214)) := (Below.refl _ w).alloc (Nat.le_refl _) _
 have hx : (w.alloc (.cells #[.func (.func fn) #[] caps] 214)).cell? ⟨w.heap.size, 0, none⟩ = some (.func (.func fn) #[] caps) := (box_of w _ _).cell 0
 refine (containsThread w.heap.size fn caps a n c x0 x1 x2 x3 x4 p _ hn (HA.out.below hb0 (Nat.le_refl _)) (H.out.on hb0) (by simp) hx HE.out).mono ?_
 rintro e w1 ⟨r, ⟨rfl, hr⟩, hb1⟩
 have HR : Hid (r = true ↔ ¬ ∀ j, j < n → p j = true) := hr
 have HB : Hid (Below w.heap.size w w1) := hb0.trans (hb1.mono hb0.size)
 clear hr hb1 hb0 hx
 rcases r with _ | _
 · go_wp2
   go_ret
   exact ⟨true, ⟨rfl, ⟨(fun _ => Classical.byContradiction fun h => by have := HR.out.2 h; cases this), fun _ => rfl⟩⟩, HB.out⟩
 · go_wp2
   go_ret
   exact ⟨false, ⟨rfl, ⟨(fun h => by cases h), fun h => absurd h (HR.out.1 (by first | rfl | trivial))⟩⟩, HB.out⟩
def LieCall (w : World) (a : Option Addr) (n : Nat) (x0 x1 x2 x3 x4 x5 x6 x7 x8 : Nat → Value) : Prop := n = 0 ∨ ∃ b o, a = some ⟨b, o, none⟩ ∧ ∀ j, j < n → w.cell? ⟨b, o + j * 9, none⟩ = some (x0 j) ∧ w.cell? ⟨b, o + j * 9 + 1, none⟩ = some (x1 j) ∧ w.cell? ⟨b, o + j * 9 + 2, none⟩ = some (x2 j) ∧ w.cell? ⟨b, o + j * 9 + 3, none⟩ = some (x3 j) ∧ w.cell? ⟨b, o + j * 9 + 4, none⟩ = some (x4 j) ∧ w.cell? ⟨b, o + j * 9 + 5, none⟩ = some (x5 j) ∧ w.cell? ⟨b, o + j * 9 + 6, none⟩ = some (x6 j) ∧ w.cell? ⟨b, o + j * 9 + 7, none⟩ = some (x7 j) ∧ w.cell? ⟨b, o + j * 9 + 8, none⟩ = some (x8 j)
theorem LieCall.below {w w' : World} {a : Option Addr} {n : Nat} {x0 x1 x2 x3 x4 x5 x6 x7 x8 : Nat → Value} (h : LieCall w a n x0 x1 x2 x3 x4 x5 x6 x7 x8) {B : Nat} (hb : Below B w w') (hB : w.heap.size ≤ B) : LieCall w' a n x0 x1 x2 x3 x4 x5 x6 x7 x8 := by
 rcases h with h | ⟨b, o, h1, h2⟩
 · exact .inl h
 · refine .inr ⟨b, o, h1, fun j hj => ?_⟩
   obtain ⟨e0, e1, e2, e3, e4, e5, e6, e7, e8⟩ := h2 j hj
   have hlt : b < B := Nat.lt_of_lt_of_le (World.block_lt_of_cell? w _ e0) hB
   exact ⟨(hb.cell (show b < B from hlt)).trans e0, (hb.cell (show b < B from hlt)).trans e1, (hb.cell (show b < B from hlt)).trans e2, (hb.cell (show b < B from hlt)).trans e3, (hb.cell (show b < B from hlt)).trans e4, (hb.cell (show b < B from hlt)).trans e5, (hb.cell (show b < B from hlt)).trans e6, (hb.cell (show b < B from hlt)).trans e7, (hb.cell (show b < B from hlt)).trans e8⟩
def TellsCall (fn : FuncId) (caps : Array Value) (n : Nat) (x0 x1 x2 x3 x4 x5 x6 x7 x8 : Nat → Value) (p : Nat → Bool) (w : World) : Prop := ∀ j, j < n → ∀ W, Below w.heap.size w W → Calls Tryz.prog fn (#[.agg #[x0 j, x1 j, x2 j, x3 j, x4 j, x5 j, x6 j, x7 j, x8 j]] ++ caps) W fun e w' => e = .returned (.bool (p j)) ∧ Below W.heap.size W w'
theorem TellsCall.on {fn : FuncId} {caps : Array Value} {n : Nat} {x0 x1 x2 x3 x4 x5 x6 x7 x8 : Nat → Value} {p : Nat → Bool} {w w' : World} (h : TellsCall fn caps n x0 x1 x2 x3 x4 x5 x6 x7 x8 p w) (hb : Below w.heap.size w w') : TellsCall fn caps n x0 x1 x2 x3 x4 x5 x6 x7 x8 p w' :=
 fun j hj W hW => h j hj W (hb.trans (hW.mono hb.size))
theorem notCall (g : Nat) (fn : FuncId) (caps : Array Value) (n : Nat) (x0 x1 x2 x3 x4 x5 x6 x7 x8 : Nat → Value) (p : Nat → Bool) (j : Nat) (hj : j < n) (w : World) (h : TellsCall fn caps n x0 x1 x2 x3 x4 x5 x6 x7 x8 p w) (hg : g < w.heap.size) (hc : w.cell? ⟨g, 0, none⟩ = some (.func (.func fn) #[] caps)) (hE : Enters fn) :
   Calls Tryz.prog 179 #[.agg #[x0 j, x1 j, x2 j, x3 j, x4 j, x5 j, x6 j, x7 j, x8 j], .pointer (some ⟨g, 0, none⟩)] w fun e w' => e = .returned (.bool !(p j)) ∧ Below w.heap.size w w' := by
 have H : Hid (TellsCall fn caps n x0 x1 x2 x3 x4 x5 x6 x7 x8 p w) := h
 have hE : ∀ (args : Array Value) (w : World), (callFunc fn args).run Tryz.prog w = .ok (.enter fn args) w := hE
 clear h
 go_enter Tryz.func179, Tryz.ntmps179
 go_wp2_with fail
 have hb0 : Below w.heap.size w (w.alloc (.cells #[x0 j, x1 j, x2 j, x3 j, x4 j, x5 j, x6 j, x7 j, x8 j] 84)) := (Below.refl _ w).alloc (Nat.le_refl _) _
 refine (H.out j hj _ hb0).mono ?_
 rintro e w1 ⟨rfl, hb1⟩
 have hb2 := hb0.trans (hb1.mono (by simp))
 clear hb0 hb1
 go_wp2
 go_ret
 exact ⟨rfl, hb2⟩
theorem indexCall (g : Nat) (fn : FuncId) (caps : Array Value) (a : Option Addr) (n c : Nat) (x0 x1 x2 x3 x4 x5 x6 x7 x8 : Nat → Value) (p : Nat → Bool) (w : World) (hn : n ≤ 2097152) (hA : LieCall w a n x0 x1 x2 x3 x4 x5 x6 x7 x8) (h : TellsCall fn caps n x0 x1 x2 x3 x4 x5 x6 x7 x8 p w) (hg : g < w.heap.size) (hc : w.cell? ⟨g, 0, none⟩ = some (.func (.func fn) #[] caps)) (hE : Enters fn) :
   Calls Tryz.prog 188 #[.slice a n c, .func (.func 179) #[] #[.pointer (some ⟨g, 0, none⟩)]] w fun e w' => ∃ r : Int, (e = .returned (.int .i64 r) ∧ (0 ≤ r ↔ ¬ ∀ j, j < n → p j = true)) ∧ Below w.heap.size w w' := by
 have HA : Hid (LieCall w a n x0 x1 x2 x3 x4 x5 x6 x7 x8) := hA
 have H : Hid (TellsCall fn caps n x0 x1 x2 x3 x4 x5 x6 x7 x8 p w) := h
 have HE : Hid (Enters fn) := hE
 have HC : Hid (w.cell? ⟨g, 0, none⟩ = some (.func (.func fn) #[] caps)) := hc
 clear hA h hE hc
 go_enter Tryz.func188, Tryz.ntmps188
 go_wp2
 go_loopw [8] (fun i wr => ∃ k : Nat, k ≤ n ∧ i = .int .i64 k ∧ (∀ j, j < k → p j = true) ∧ Below w.heap.size w wr) (fun i _ => n - (intOf i).toNat)
 case atStart => exact ⟨0, Nat.zero_le _, rfl, fun j hj => by omega, Below.refl _ _⟩
 case round =>
   obtain ⟨k, hk, rfl, hno, hbr⟩ := hrel
   have HNO : Hid (∀ j, j < k → p j = true) := hno
   clear hno
   by_cases hlt : k < n
   · rcases HA.out.below hbr (Nat.le_refl _) with h0 | ⟨p1, o1, rfl, g1⟩
     · omega
     have hk0 : (0 : Int) ≤ (k : Int) := by omega
     have hk1 : (k : Int) < (n : Int) := by omega
     obtain ⟨e0, e1, e2, e3, e4, e5, e6, e7, e8⟩ := g1 k hlt
     clear g1
     go_wp2_with fail
     have hlb : g < wr.heap.size := Nat.lt_of_lt_of_le hg hbr.size
     refine (notCall g fn caps n x0 x1 x2 x3 x4 x5 x6 x7 x8 p k hlt _ (H.out.on hbr) hlb ((hbr.cell (show g < w.heap.size from hg)).trans HC.out) HE.out).mono ?_
     rintro e w1 ⟨rfl, hb1⟩
     have hb2 := hbr.trans (hb1.mono hbr.size)
     clear hb1 e0 e1 e2 e3 e4 e5 e6 e7 e8
     rcases hp : p k with _ | _
     · have HV : Hid (¬ ∀ j, j < n → p j = true) := fun h => by have := h k hlt; rw [hp] at this; cases this
       clear hp
       go_wp2
       go_ret
       exact ⟨(k : Int), ⟨rfl, ⟨fun _ => HV.out, fun _ => by omega⟩⟩, hb2⟩
     · have HN : Hid (∀ j, j < k + 1 → p j = true) := fun j hj => by
         by_cases e : j = k
         · rw [e]; exact hp
         · exact HNO.out j (by omega)
       clear hp
       go_wp2
       exact ⟨⟨k + 1, by omega, by go_num, HN.out, hb2⟩, by simp [intOf]; omega⟩
   · obtain rfl : n = k := by omega
     go_wp2
     go_ret
     exact ⟨-1, ⟨rfl, ⟨fun h => by omega, fun h => absurd HNO.out h⟩⟩, hbr⟩
theorem containsCall (g : Nat) (fn : FuncId) (caps : Array Value) (a : Option Addr) (n c : Nat) (x0 x1 x2 x3 x4 x5 x6 x7 x8 : Nat → Value) (p : Nat → Bool) (w : World) (hn : n ≤ 2097152) (hA : LieCall w a n x0 x1 x2 x3 x4 x5 x6 x7 x8) (h : TellsCall fn caps n x0 x1 x2 x3 x4 x5 x6 x7 x8 p w) (hg : g < w.heap.size) (hc : w.cell? ⟨g, 0, none⟩ = some (.func (.func fn) #[] caps)) (hE : Enters fn) :
   Calls Tryz.prog 178 #[.slice a n c, .func (.func 179) #[] #[.pointer (some ⟨g, 0, none⟩)]] w fun e w' => ∃ b : Bool, (e = .returned (.bool b) ∧ (b = true ↔ ¬ ∀ j, j < n → p j = true)) ∧ Below w.heap.size w w' := by
 have HA : Hid (LieCall w a n x0 x1 x2 x3 x4 x5 x6 x7 x8) := hA
 have H : Hid (TellsCall fn caps n x0 x1 x2 x3 x4 x5 x6 x7 x8 p w) := h
 have HE : Hid (Enters fn) := hE
 have HC : Hid (w.cell? ⟨g, 0, none⟩ = some (.func (.func fn) #[] caps)) := hc
 clear hA h hE hc
 go_enter Tryz.func178, Tryz.ntmps178
 go_wp2_with fail
 refine (indexCall g fn caps a n c x0 x1 x2 x3 x4 x5 x6 x7 x8 p _ hn HA.out H.out hg HC.out HE.out).mono ?_
 rintro e w1 ⟨r, ⟨rfl, hr⟩, hb1⟩
 have HR : Hid (0 ≤ r ↔ ¬ ∀ j, j < n → p j = true) := hr
 have HB : Hid (Below w.heap.size w w1) := hb1
 clear hr hb1
 by_cases h0 : 0 ≤ r
 · have h0' : decide (0 ≤ r) = true := decide_eq_true h0
   go_wp2
   go_ret
   exact ⟨true, ⟨rfl, ⟨fun _ => HR.out.1 h0, fun _ => rfl⟩⟩, HB.out⟩
 · have h0' : decide (0 ≤ r) = false := decide_eq_false h0
   go_wp2
   go_ret
   exact ⟨false, ⟨rfl, ⟨(fun h => by cases h), fun h => absurd (HR.out.2 h) (by omega)⟩⟩, HB.out⟩
theorem allCall (fn : FuncId) (caps : Array Value) (a : Option Addr) (n c : Nat) (x0 x1 x2 x3 x4 x5 x6 x7 x8 : Nat → Value) (p : Nat → Bool) (w : World) (hn : n ≤ 2097152) (hA : LieCall w a n x0 x1 x2 x3 x4 x5 x6 x7 x8) (h : TellsCall fn caps n x0 x1 x2 x3 x4 x5 x6 x7 x8 p w) (hE : Enters fn) :
   Calls Tryz.prog 156 #[.slice a n c, .func (.func fn) #[] caps] w fun e w' => ∃ b : Bool, (e = .returned (.bool b) ∧ (b = true ↔ ∀ j, j < n → p j = true)) ∧ Below w.heap.size w w' := by
 have HA : Hid (LieCall w a n x0 x1 x2 x3 x4 x5 x6 x7 x8) := hA
 have H : Hid (TellsCall fn caps n x0 x1 x2 x3 x4 x5 x6 x7 x8 p w) := h
 have HE : Hid (Enters fn) := hE
 clear hA h hE
 go_enter Tryz.func156, Tryz.ntmps156
 go_wp2_with fail
 have hb0 : Below w.heap.size w (w.alloc (.cells #[.func (.func fn) #[] caps] 145)) := (Below.refl _ w).alloc (Nat.le_refl _) _
 have hx : (w.alloc (.cells #[.func (.func fn) #[] caps] 145)).cell? ⟨w.heap.size, 0, none⟩ = some (.func (.func fn) #[] caps) := (box_of w _ _).cell 0
 refine (containsCall w.heap.size fn caps a n c x0 x1 x2 x3 x4 x5 x6 x7 x8 p _ hn (HA.out.below hb0 (Nat.le_refl _)) (H.out.on hb0) (by simp) hx HE.out).mono ?_
 rintro e w1 ⟨r, ⟨rfl, hr⟩, hb1⟩
 have HR : Hid (r = true ↔ ¬ ∀ j, j < n → p j = true) := hr
 have HB : Hid (Below w.heap.size w w1) := hb0.trans (hb1.mono hb0.size)
 clear hr hb1 hb0 hx
 rcases r with _ | _
 · go_wp2
   go_ret
   exact ⟨true, ⟨rfl, ⟨(fun _ => Classical.byContradiction fun h => by have := HR.out.2 h; cases this), fun _ => rfl⟩⟩, HB.out⟩
 · go_wp2
   go_ret
   exact ⟨false, ⟨rfl, ⟨(fun h => by cases h), fun h => absurd h (HR.out.1 (by first | rfl | trivial))⟩⟩, HB.out⟩

theorem specValOk_any (k : Int) (w : World) :
   Calls Tryz.prog 115 #[.int .i64 k] w fun e w' => e = .returned (.bool (decide (1 ≤ k ∧ k ≤ 6))) ∧ w' = w := by
 by_cases h0 : 1 ≤ k
 · by_cases h1 : k ≤ 6
   · rw [show decide (1 ≤ k ∧ k ≤ 6) = true from decide_eq_true ⟨h0, h1⟩]
     go_enter Tryz.func115, Tryz.ntmps115
     go_wp2
     go_ret
     exact ⟨rfl, rfl⟩
   · rw [show decide (1 ≤ k ∧ k ≤ 6) = false from decide_eq_false (fun h => h1 h.2)]
     go_enter Tryz.func115, Tryz.ntmps115
     go_wp2
     go_ret
     exact ⟨rfl, rfl⟩
 · rw [show decide (1 ≤ k ∧ k ≤ 6) = false from decide_eq_false (fun h => h0 h.1)]
   go_enter Tryz.func115, Tryz.ntmps115
   go_wp2
   go_ret
   exact ⟨rfl, rfl⟩
theorem implValOk_any (k : Int) (w : World) :
   Calls Tryz.prog 141 #[.int .i64 k] w fun e w' => e = .returned (.bool (decide (1 ≤ k ∧ k ≤ 6))) ∧ w' = w := by
 by_cases h0 : 1 ≤ k
 · by_cases h1 : k ≤ 6
   · rw [show decide (1 ≤ k ∧ k ≤ 6) = true from decide_eq_true ⟨h0, h1⟩]
     have h2 : k < 7 := by omega
     go_enter Tryz.func141, Tryz.ntmps141
     go_wp2
     go_ret
     exact ⟨rfl, rfl⟩
   · rw [show decide (1 ≤ k ∧ k ≤ 6) = false from decide_eq_false (fun h => h1 h.2)]
     have h2 : ¬ k < 7 := by omega
     go_enter Tryz.func141, Tryz.ntmps141
     go_wp2
     go_ret
     exact ⟨rfl, rfl⟩
 · rw [show decide (1 ≤ k ∧ k ≤ 6) = false from decide_eq_false (fun h => h0 h.1)]
   go_enter Tryz.func141, Tryz.ntmps141
   go_wp2
   go_ret
   exact ⟨rfl, rfl⟩
end
end Go.Proofs.YtbfolanfbagofaaGreatDoor
