/- Texts joined: AllT, Ended, ImplAh, MayB, OpenDesc, Descs, Descs2, OpenW, LawMem, MemO, CloneO, AnewR. -/
import Derived.Test.YtecheopkfhfgkaaGreatLN01
import Derived.Test.YtecheopkfhfgkaaGreatLN02
import Derived.Test.YtecheopkfhfgkaaGreatLN05
import Derived.Test.YtecheopkfhfgkaaGreatLN04
import Derived.Deep.Slices
import Derived.Test.YtecheopkfhfgkaaGreatLN03
import Derived.OpenShut
import Derived.ChangeOld
import Derived.Deep.RegionHeld3
import Derived.Lib.SmallJoins
import Derived.Lib.LazyBuf
set_option maxHeartbeats 4000000
set_option maxRecDepth 100000
namespace Go.Proofs.YtecheopkfhfgkaaGreat
section
open Go.ChangeShapes Go.WideShapes Go.ChangeAt Go.RowKit
def Enters (fn : FuncId) : Prop := ∀ (args : Array Value) (w : World), (callFunc fn args).run Tryz.prog w = .ok (.enter fn args) w
def LieOp (w : World) (a : Option Addr) (n : Nat) (x0 x1 x2 : Nat → Value) : Prop := n = 0 ∨ ∃ b o, a = some ⟨b, o, none⟩ ∧ ∀ j, j < n → w.cell? ⟨b, o + j * 3, none⟩ = some (x0 j) ∧ w.cell? ⟨b, o + j * 3 + 1, none⟩ = some (x1 j) ∧ w.cell? ⟨b, o + j * 3 + 2, none⟩ = some (x2 j)
theorem LieOp.below {w w' : World} {a : Option Addr} {n : Nat} {x0 x1 x2 : Nat → Value} (h : LieOp w a n x0 x1 x2) {B : Nat} (hb : Below B w w') (hB : w.heap.size ≤ B) : LieOp w' a n x0 x1 x2 := by
  rcases h with h | ⟨b, o, h1, h2⟩
  · exact .inl h
  · refine .inr ⟨b, o, h1, fun j hj => ?_⟩
    obtain ⟨e0, e1, e2⟩ := h2 j hj
    have hlt : b < B := Nat.lt_of_lt_of_le (World.block_lt_of_cell? w _ e0) hB
    exact ⟨(hb.cell (show b < B from hlt)).trans e0, (hb.cell (show b < B from hlt)).trans e1, (hb.cell (show b < B from hlt)).trans e2⟩
def TellsOp (fn : FuncId) (caps : Array Value) (n : Nat) (x0 x1 x2 : Nat → Value) (p : Nat → Bool) (w : World) : Prop := ∀ j, j < n → ∀ W, Below w.heap.size w W → Calls Tryz.prog fn (#[.agg #[x0 j, x1 j, x2 j]] ++ caps) W fun e w' => e = .returned (.bool (p j)) ∧ Below W.heap.size W w'
theorem TellsOp.on {fn : FuncId} {caps : Array Value} {n : Nat} {x0 x1 x2 : Nat → Value} {p : Nat → Bool} {w w' : World} (h : TellsOp fn caps n x0 x1 x2 p w) (hb : Below w.heap.size w w') : TellsOp fn caps n x0 x1 x2 p w' :=
  fun j hj W hW => h j hj W (hb.trans (hW.mono hb.size))
def LiePair (w : World) (a : Option Addr) (n : Nat) (x0 x1 : Nat → Value) : Prop := n = 0 ∨ ∃ b o, a = some ⟨b, o, none⟩ ∧ ∀ j, j < n → w.cell? ⟨b, o + j * 2, none⟩ = some (x0 j) ∧ w.cell? ⟨b, o + j * 2 + 1, none⟩ = some (x1 j)
theorem LiePair.below {w w' : World} {a : Option Addr} {n : Nat} {x0 x1 : Nat → Value} (h : LiePair w a n x0 x1) {B : Nat} (hb : Below B w w') (hB : w.heap.size ≤ B) : LiePair w' a n x0 x1 := by
  rcases h with h | ⟨b, o, h1, h2⟩
  · exact .inl h
  · refine .inr ⟨b, o, h1, fun j hj => ?_⟩
    obtain ⟨e0, e1⟩ := h2 j hj
    have hlt : b < B := Nat.lt_of_lt_of_le (World.block_lt_of_cell? w _ e0) hB
    exact ⟨(hb.cell (show b < B from hlt)).trans e0, (hb.cell (show b < B from hlt)).trans e1⟩
def TellsPair (fn : FuncId) (caps : Array Value) (n : Nat) (x0 x1 : Nat → Value) (p : Nat → Bool) (w : World) : Prop := ∀ j, j < n → ∀ W, Below w.heap.size w W → Calls Tryz.prog fn (#[.agg #[x0 j, x1 j]] ++ caps) W fun e w' => e = .returned (.bool (p j)) ∧ Below W.heap.size W w'
theorem TellsPair.on {fn : FuncId} {caps : Array Value} {n : Nat} {x0 x1 : Nat → Value} {p : Nat → Bool} {w w' : World} (h : TellsPair fn caps n x0 x1 p w) (hb : Below w.heap.size w w') : TellsPair fn caps n x0 x1 p w' :=
  fun j hj W hW => h j hj W (hb.trans (hW.mono hb.size))
def LieHelp (w : World) (a : Option Addr) (n : Nat) (x0 x1 x2 x3 : Nat → Value) : Prop := n = 0 ∨ ∃ b o, a = some ⟨b, o, none⟩ ∧ ∀ j, j < n → w.cell? ⟨b, o + j * 4, none⟩ = some (x0 j) ∧ w.cell? ⟨b, o + j * 4 + 1, none⟩ = some (x1 j) ∧ w.cell? ⟨b, o + j * 4 + 2, none⟩ = some (x2 j) ∧ w.cell? ⟨b, o + j * 4 + 3, none⟩ = some (x3 j)
theorem LieHelp.below {w w' : World} {a : Option Addr} {n : Nat} {x0 x1 x2 x3 : Nat → Value} (h : LieHelp w a n x0 x1 x2 x3) {B : Nat} (hb : Below B w w') (hB : w.heap.size ≤ B) : LieHelp w' a n x0 x1 x2 x3 := by
  rcases h with h | ⟨b, o, h1, h2⟩
  · exact .inl h
  · refine .inr ⟨b, o, h1, fun j hj => ?_⟩
    obtain ⟨e0, e1, e2, e3⟩ := h2 j hj
    have hlt : b < B := Nat.lt_of_lt_of_le (World.block_lt_of_cell? w _ e0) hB
    exact ⟨(hb.cell (show b < B from hlt)).trans e0, (hb.cell (show b < B from hlt)).trans e1, (hb.cell (show b < B from hlt)).trans e2, (hb.cell (show b < B from hlt)).trans e3⟩
def TellsHelp (fn : FuncId) (caps : Array Value) (n : Nat) (x0 x1 x2 x3 : Nat → Value) (p : Nat → Bool) (w : World) : Prop := ∀ j, j < n → ∀ W, Below w.heap.size w W → Calls Tryz.prog fn (#[.agg #[x0 j, x1 j, x2 j, x3 j]] ++ caps) W fun e w' => e = .returned (.bool (p j)) ∧ Below W.heap.size W w'
theorem TellsHelp.on {fn : FuncId} {caps : Array Value} {n : Nat} {x0 x1 x2 x3 : Nat → Value} {p : Nat → Bool} {w w' : World} (h : TellsHelp fn caps n x0 x1 x2 x3 p w) (hb : Below w.heap.size w w') : TellsHelp fn caps n x0 x1 x2 x3 p w' :=
  fun j hj W hW => h j hj W (hb.trans (hW.mono hb.size))
def LieThread (w : World) (a : Option Addr) (n : Nat) (x0 x1 x2 x3 x4 : Nat → Value) : Prop := n = 0 ∨ ∃ b o, a = some ⟨b, o, none⟩ ∧ ∀ j, j < n → w.cell? ⟨b, o + j * 5, none⟩ = some (x0 j) ∧ w.cell? ⟨b, o + j * 5 + 1, none⟩ = some (x1 j) ∧ w.cell? ⟨b, o + j * 5 + 2, none⟩ = some (x2 j) ∧ w.cell? ⟨b, o + j * 5 + 3, none⟩ = some (x3 j) ∧ w.cell? ⟨b, o + j * 5 + 4, none⟩ = some (x4 j)
theorem LieThread.below {w w' : World} {a : Option Addr} {n : Nat} {x0 x1 x2 x3 x4 : Nat → Value} (h : LieThread w a n x0 x1 x2 x3 x4) {B : Nat} (hb : Below B w w') (hB : w.heap.size ≤ B) : LieThread w' a n x0 x1 x2 x3 x4 := by
  rcases h with h | ⟨b, o, h1, h2⟩
  · exact .inl h
  · refine .inr ⟨b, o, h1, fun j hj => ?_⟩
    obtain ⟨e0, e1, e2, e3, e4⟩ := h2 j hj
    have hlt : b < B := Nat.lt_of_lt_of_le (World.block_lt_of_cell? w _ e0) hB
    exact ⟨(hb.cell (show b < B from hlt)).trans e0, (hb.cell (show b < B from hlt)).trans e1, (hb.cell (show b < B from hlt)).trans e2, (hb.cell (show b < B from hlt)).trans e3, (hb.cell (show b < B from hlt)).trans e4⟩
def TellsThread (fn : FuncId) (caps : Array Value) (n : Nat) (x0 x1 x2 x3 x4 : Nat → Value) (p : Nat → Bool) (w : World) : Prop := ∀ j, j < n → ∀ W, Below w.heap.size w W → Calls Tryz.prog fn (#[.agg #[x0 j, x1 j, x2 j, x3 j, x4 j]] ++ caps) W fun e w' => e = .returned (.bool (p j)) ∧ Below W.heap.size W w'
theorem TellsThread.on {fn : FuncId} {caps : Array Value} {n : Nat} {x0 x1 x2 x3 x4 : Nat → Value} {p : Nat → Bool} {w w' : World} (h : TellsThread fn caps n x0 x1 x2 x3 x4 p w) (hb : Below w.heap.size w w') : TellsThread fn caps n x0 x1 x2 x3 x4 p w' :=
  fun j hj W hW => h j hj W (hb.trans (hW.mono hb.size))
def LieCall (w : World) (a : Option Addr) (n : Nat) (x0 x1 x2 x3 x4 x5 x6 x7 x8 : Nat → Value) : Prop := n = 0 ∨ ∃ b o, a = some ⟨b, o, none⟩ ∧ ∀ j, j < n → w.cell? ⟨b, o + j * 9, none⟩ = some (x0 j) ∧ w.cell? ⟨b, o + j * 9 + 1, none⟩ = some (x1 j) ∧ w.cell? ⟨b, o + j * 9 + 2, none⟩ = some (x2 j) ∧ w.cell? ⟨b, o + j * 9 + 3, none⟩ = some (x3 j) ∧ w.cell? ⟨b, o + j * 9 + 4, none⟩ = some (x4 j) ∧ w.cell? ⟨b, o + j * 9 + 5, none⟩ = some (x5 j) ∧ w.cell? ⟨b, o + j * 9 + 6, none⟩ = some (x6 j) ∧ w.cell? ⟨b, o + j * 9 + 7, none⟩ = some (x7 j) ∧ w.cell? ⟨b, o + j * 9 + 8, none⟩ = some (x8 j)
theorem LieCall.below {w w' : World} {a : Option Addr} {n : Nat} {x0 x1 x2 x3 x4 x5 x6 x7 x8 : Nat → Value} (h : LieCall w a n x0 x1 x2 x3 x4 x5 x6 x7 x8) {B : Nat} (hb : Below B w w') (hB : w.heap.size ≤ B) : LieCall w' a n x0 x1 x2 x3 x4 x5 x6 x7 x8 := by
  rcases h with h | ⟨b, o, h1, h2⟩
  · exact .inl h
  · refine .inr ⟨b, o, h1, fun j hj => ?_⟩
    obtain ⟨e0, e1, e2, e3, e4, e5, e6, e7, e8⟩ := h2 j hj
    have hlt : b < B := Nat.lt_of_lt_of_le (World.block_lt_of_cell? w _ e0) hB
    exact ⟨(hb.cell (show b < B from hlt)).trans e0, (hb.cell (show b < B from hlt)).trans e1, (hb.cell (show b < B from hlt)).trans e2, (hb.cell (show b < B from hlt)).trans e3, (hb.cell (show b < B from hlt)).trans e4, (hb.cell (show b < B from hlt)).trans e5, (hb.cell (show b < B from hlt)).trans e6, (hb.cell (show b < B from hlt)).trans e7, (hb.cell (show b < B from hlt)).trans e8⟩
def TellsCall (fn : FuncId) (caps : Array Value) (n : Nat) (x0 x1 x2 x3 x4 x5 x6 x7 x8 : Nat → Value) (p : Nat → Bool) (w : World) : Prop := ∀ j, j < n → ∀ W, Below w.heap.size w W → Calls Tryz.prog fn (#[.agg #[x0 j, x1 j, x2 j, x3 j, x4 j, x5 j, x6 j, x7 j, x8 j]] ++ caps) W fun e w' => e = .returned (.bool (p j)) ∧ Below W.heap.size W w'
theorem TellsCall.on {fn : FuncId} {caps : Array Value} {n : Nat} {x0 x1 x2 x3 x4 x5 x6 x7 x8 : Nat → Value} {p : Nat → Bool} {w w' : World} (h : TellsCall fn caps n x0 x1 x2 x3 x4 x5 x6 x7 x8 p w) (hb : Below w.heap.size w w') : TellsCall fn caps n x0 x1 x2 x3 x4 x5 x6 x7 x8 p w' :=
  fun j hj W hW => h j hj W (hb.trans (hW.mono hb.size))
theorem notCall (g : Nat) (fn : FuncId) (caps : Array Value) (n : Nat) (x0 x1 x2 x3 x4 x5 x6 x7 x8 : Nat → Value) (p : Nat → Bool) (j : Nat) (hj : j < n) (w : World) (h : TellsCall fn caps n x0 x1 x2 x3 x4 x5 x6 x7 x8 p w) (hg : g < w.heap.size) (hc : w.cell? ⟨g, 0, none⟩ = some (.func (.func fn) #[] caps)) (hE : Enters fn) :
    Calls Tryz.prog 69 #[.agg #[x0 j, x1 j, x2 j, x3 j, x4 j, x5 j, x6 j, x7 j, x8 j], .pointer (some ⟨g, 0, none⟩)] w fun e w' => e = .returned (.bool !(p j)) ∧ Below w.heap.size w w' := by
  have H : Hid (TellsCall fn caps n x0 x1 x2 x3 x4 x5 x6 x7 x8 p w) := h
  have hE : ∀ (args : Array Value) (w : World), (callFunc fn args).run Tryz.prog w = .ok (.enter fn args) w := hE
  clear h
  go_enter Tryz.func69, Tryz.ntmps69
  go_wp2_with fail
  have hb0 : Below w.heap.size w (w.alloc (.cells #[x0 j, x1 j, x2 j, x3 j, x4 j, x5 j, x6 j, x7 j, x8 j] 52)) := (Below.refl _ w).alloc (Nat.le_refl _) _
  refine (H.out j hj _ hb0).mono ?_
  rintro e w1 ⟨rfl, hb1⟩
  have hb2 := hb0.trans (hb1.mono (by simp))
  clear hb0 hb1
  go_wp2
  go_ret
  exact ⟨rfl, hb2⟩
theorem indexCall (g : Nat) (fn : FuncId) (caps : Array Value) (a : Option Addr) (n c : Nat) (x0 x1 x2 x3 x4 x5 x6 x7 x8 : Nat → Value) (p : Nat → Bool) (w : World) (hn : n ≤ 2097152) (hA : LieCall w a n x0 x1 x2 x3 x4 x5 x6 x7 x8) (h : TellsCall fn caps n x0 x1 x2 x3 x4 x5 x6 x7 x8 p w) (hg : g < w.heap.size) (hc : w.cell? ⟨g, 0, none⟩ = some (.func (.func fn) #[] caps)) (hE : Enters fn) :
    Calls Tryz.prog 88 #[.slice a n c, .func (.func 69) #[] #[.pointer (some ⟨g, 0, none⟩)]] w fun e w' => ∃ r : Int, (e = .returned (.int .i64 r) ∧ (0 ≤ r ↔ ¬ ∀ j, j < n → p j = true)) ∧ Below w.heap.size w w' := by
  have HA : Hid (LieCall w a n x0 x1 x2 x3 x4 x5 x6 x7 x8) := hA
  have H : Hid (TellsCall fn caps n x0 x1 x2 x3 x4 x5 x6 x7 x8 p w) := h
  have HE : Hid (Enters fn) := hE
  have HC : Hid (w.cell? ⟨g, 0, none⟩ = some (.func (.func fn) #[] caps)) := hc
  clear hA h hE hc
  go_enter Tryz.func88, Tryz.ntmps88
  go_wp2
  go_loopw [8] (fun i wr => ∃ k : Nat, k ≤ n ∧ i = .int .i64 k ∧ (∀ j, j < k → p j = true) ∧ Below w.heap.size w wr) (fun i _ => n - (intOf i).toNat)
  case atStart => exact ⟨0, Nat.zero_le _, rfl, fun j hj => by omega, Below.refl _ _⟩
  case round =>
    obtain ⟨k, hk, rfl, hno, hbr⟩ := hrel
    have HNO : Hid (∀ j, j < k → p j = true) := hno
    clear hno
    by_cases hlt : k < n
    · rcases HA.out.below hbr (Nat.le_refl _) with h0 | ⟨p1, o1, rfl, g1⟩
      · omega
      have hk0 : (0 : Int) ≤ (k : Int) := by omega
      have hk1 : (k : Int) < (n : Int) := by omega
      obtain ⟨e0, e1, e2, e3, e4, e5, e6, e7, e8⟩ := g1 k hlt
      clear g1
      go_wp2_with fail
      have hlb : g < wr.heap.size := Nat.lt_of_lt_of_le hg hbr.size
      refine (notCall g fn caps n x0 x1 x2 x3 x4 x5 x6 x7 x8 p k hlt _ (H.out.on hbr) hlb ((hbr.cell (show g < w.heap.size from hg)).trans HC.out) HE.out).mono ?_
      rintro e w1 ⟨rfl, hb1⟩
      have hb2 := hbr.trans (hb1.mono hbr.size)
      clear hb1 e0 e1 e2 e3 e4 e5 e6 e7 e8
      rcases hp : p k with _ | _
      · have HV : Hid (¬ ∀ j, j < n → p j = true) := fun h => by have := h k hlt; rw [hp] at this; cases this
        clear hp
        go_wp2
        go_ret
        exact ⟨(k : Int), ⟨rfl, ⟨fun _ => HV.out, fun _ => by omega⟩⟩, hb2⟩
      · have HN : Hid (∀ j, j < k + 1 → p j = true) := fun j hj => by
          by_cases e : j = k
          · rw [e]; exact hp
          · exact HNO.out j (by omega)
        clear hp
        go_wp2
        exact ⟨⟨k + 1, by omega, by go_num, HN.out, hb2⟩, by simp [intOf]; omega⟩
    · obtain rfl : n = k := by omega
      go_wp2
      go_ret
      exact ⟨-1, ⟨rfl, ⟨fun h => by omega, fun h => absurd HNO.out h⟩⟩, hbr⟩
theorem containsCall (g : Nat) (fn : FuncId) (caps : Array Value) (a : Option Addr) (n c : Nat) (x0 x1 x2 x3 x4 x5 x6 x7 x8 : Nat → Value) (p : Nat → Bool) (w : World) (hn : n ≤ 2097152) (hA : LieCall w a n x0 x1 x2 x3 x4 x5 x6 x7 x8) (h : TellsCall fn caps n x0 x1 x2 x3 x4 x5 x6 x7 x8 p w) (hg : g < w.heap.size) (hc : w.cell? ⟨g, 0, none⟩ = some (.func (.func fn) #[] caps)) (hE : Enters fn) :
    Calls Tryz.prog 68 #[.slice a n c, .func (.func 69) #[] #[.pointer (some ⟨g, 0, none⟩)]] w fun e w' => ∃ b : Bool, (e = .returned (.bool b) ∧ (b = true ↔ ¬ ∀ j, j < n → p j = true)) ∧ Below w.heap.size w w' := by
  have HA : Hid (LieCall w a n x0 x1 x2 x3 x4 x5 x6 x7 x8) := hA
  have H : Hid (TellsCall fn caps n x0 x1 x2 x3 x4 x5 x6 x7 x8 p w) := h
  have HE : Hid (Enters fn) := hE
  have HC : Hid (w.cell? ⟨g, 0, none⟩ = some (.func (.func fn) #[] caps)) := hc
  clear hA h hE hc
  go_enter Tryz.func68, Tryz.ntmps68
  go_wp2_with fail
  refine (indexCall g fn caps a n c x0 x1 x2 x3 x4 x5 x6 x7 x8 p _ hn HA.out H.out hg HC.out HE.out).mono ?_
  rintro e w1 ⟨r, ⟨rfl, hr⟩, hb1⟩
  have HR : Hid (0 ≤ r ↔ ¬ ∀ j, j < n → p j = true) := hr
  have HB : Hid (Below w.heap.size w w1) := hb1
  clear hr hb1
  by_cases h0 : 0 ≤ r
  · have h0' : decide (0 ≤ r) = true := decide_eq_true h0
    go_wp2
    go_ret
    exact ⟨true, ⟨rfl, ⟨fun _ => HR.out.1 h0, fun _ => rfl⟩⟩, HB.out⟩
  · have h0' : decide (0 ≤ r) = false := decide_eq_false h0
    go_wp2
    go_ret
    exact ⟨false, ⟨rfl, ⟨(fun h => by cases h), fun h => absurd (HR.out.2 h) (by omega)⟩⟩, HB.out⟩
theorem allCall (fn : FuncId) (caps : Array Value) (a : Option Addr) (n c : Nat) (x0 x1 x2 x3 x4 x5 x6 x7 x8 : Nat → Value) (p : Nat → Bool) (w : World) (hn : n ≤ 2097152) (hA : LieCall w a n x0 x1 x2 x3 x4 x5 x6 x7 x8) (h : TellsCall fn caps n x0 x1 x2 x3 x4 x5 x6 x7 x8 p w) (hE : Enters fn) :
    Calls Tryz.prog 45 #[.slice a n c, .func (.func fn) #[] caps] w fun e w' => ∃ b : Bool, (e = .returned (.bool b) ∧ (b = true ↔ ∀ j, j < n → p j = true)) ∧ Below w.heap.size w w' := by
  have HA : Hid (LieCall w a n x0 x1 x2 x3 x4 x5 x6 x7 x8) := hA
  have H : Hid (TellsCall fn caps n x0 x1 x2 x3 x4 x5 x6 x7 x8 p w) := h
  have HE : Hid (Enters fn) := hE
  clear hA h hE
  go_enter Tryz.func45, Tryz.ntmps45
  go_wp2_with fail
  have hb0 : Below w.heap.size w (w.alloc (.cells #[.func (.func fn) #[] caps] 85)) := (Below.refl _ w).alloc (Nat.le_refl _) _
  have hx : (w.alloc (.cells #[.func (.func fn) #[] caps] 85)).cell? ⟨w.heap.size, 0, none⟩ = some (.func (.func fn) #[] caps) := (box_of w _ _).cell 0
  refine (containsCall w.heap.size fn caps a n c x0 x1 x2 x3 x4 x5 x6 x7 x8 p _ hn (HA.out.below hb0 (Nat.le_refl _)) (H.out.on hb0) (by simp) hx HE.out).mono ?_
  rintro e w1 ⟨r, ⟨rfl, hr⟩, hb1⟩
  have HR : Hid (r = true ↔ ¬ ∀ j, j < n → p j = true) := hr
  have HB : Hid (Below w.heap.size w w1) := hb0.trans (hb1.mono hb0.size)
  clear hr hb1 hb0 hx
  rcases r with _ | _
  · go_wp2
    go_ret
    exact ⟨true, ⟨rfl, ⟨(fun _ => Classical.byContradiction fun h => by have := HR.out.2 h; cases this), fun _ => rfl⟩⟩, HB.out⟩
  · go_wp2
    go_ret
    exact ⟨false, ⟨rfl, ⟨(fun h => by cases h), fun h => absurd h (HR.out.1 (by first | rfl | trivial))⟩⟩, HB.out⟩
theorem impl_ended (c : CaD) (v : Value) (w : World) : Calls Tryz.prog 55 #[CaV c v] w fun e w' => e = .returned (.bool (decide (0 ≤ c.en))) ∧ Below w.heap.size w w' := by
  obtain ⟨t, kd, k, vv, st, ln, en, cd⟩ := c
  have HB : Hid (Below w.heap.size w (w.alloc (.cells #[.int .i64 t, .int .i64 kd, .int .i64 k, .int .i64 vv, .int .i64 st, .int .i64 ln, .int .i64 en, .int .i64 cd, v] 52))) := (Below.refl _ w).alloc (Nat.le_refl _) _
  by_cases h : 0 ≤ en
  · have h' : decide (0 ≤ en) = true := decide_eq_true h
    show Calls Tryz.prog 55 #[.agg #[.int .i64 t, .int .i64 kd, .int .i64 k, .int .i64 vv, .int .i64 st, .int .i64 ln, .int .i64 en, .int .i64 cd, v]] w fun e w' => e = .returned (.bool (decide (0 ≤ en))) ∧ Below w.heap.size w w'
    rw [h']
    go_enter Tryz.func55, Tryz.ntmps55
    go_wp2
    go_ret
    exact ⟨rfl, HB.out⟩
  · have h' : decide (0 ≤ en) = false := decide_eq_false h
    show Calls Tryz.prog 55 #[.agg #[.int .i64 t, .int .i64 kd, .int .i64 k, .int .i64 vv, .int .i64 st, .int .i64 ln, .int .i64 en, .int .i64 cd, v]] w fun e w' => e = .returned (.bool (decide (0 ≤ en))) ∧ Below w.heap.size w w'
    rw [h']
    go_enter Tryz.func55, Tryz.ntmps55
    go_wp2
    go_ret
    exact ⟨rfl, HB.out⟩
theorem impl_wasSo (c : CaD) (v : Value) (w : World) : Calls Tryz.prog 56 #[CaV c v] w fun e w' => e = .returned (.bool (decide (0 ≤ c.ln))) ∧ Below w.heap.size w w' := by
  obtain ⟨t, kd, k, vv, st, ln, en, cd⟩ := c
  have HB : Hid (Below w.heap.size w (w.alloc (.cells #[.int .i64 t, .int .i64 kd, .int .i64 k, .int .i64 vv, .int .i64 st, .int .i64 ln, .int .i64 en, .int .i64 cd, v] 52))) := (Below.refl _ w).alloc (Nat.le_refl _) _
  by_cases h : 0 ≤ ln
  · have h' : decide (0 ≤ ln) = true := decide_eq_true h
    show Calls Tryz.prog 56 #[.agg #[.int .i64 t, .int .i64 kd, .int .i64 k, .int .i64 vv, .int .i64 st, .int .i64 ln, .int .i64 en, .int .i64 cd, v]] w fun e w' => e = .returned (.bool (decide (0 ≤ ln))) ∧ Below w.heap.size w w'
    rw [h']
    go_enter Tryz.func56, Tryz.ntmps56
    go_wp2
    go_ret
    exact ⟨rfl, HB.out⟩
  · have h' : decide (0 ≤ ln) = false := decide_eq_false h
    show Calls Tryz.prog 56 #[.agg #[.int .i64 t, .int .i64 kd, .int .i64 k, .int .i64 vv, .int .i64 st, .int .i64 ln, .int .i64 en, .int .i64 cd, v]] w fun e w' => e = .returned (.bool (decide (0 ≤ ln))) ∧ Below w.heap.size w w'
    rw [h']
    go_enter Tryz.func56, Tryz.ntmps56
    go_wp2
    go_ret
    exact ⟨rfl, HB.out⟩
end
section
open Go.ChangeShapes Go.WideShapes Go.ChangeAt Go.RowKit Go.Joins
theorem nineA_of {w : World} {b : Nat} {v0 v1 v2 v3 v4 v5 v6 v7 v8 : Value} {T : TypeId} (h : Box w b #[v0, v1, v2, v3, v4, v5, v6, v7, v8] T) : w.cell? ⟨b, 0, none⟩ = some v0 ∧ w.cell? ⟨b, 1, none⟩ = some v1 ∧ w.cell? ⟨b, 2, none⟩ = some v2 ∧ w.cell? ⟨b, 3, none⟩ = some v3 ∧ w.cell? ⟨b, 4, none⟩ = some v4 ∧ w.cell? ⟨b, 5, none⟩ = some v5 ∧ w.cell? ⟨b, 6, none⟩ = some v6 ∧ w.cell? ⟨b, 7, none⟩ = some v7 ∧ w.cell? ⟨b, 8, none⟩ = some v8 ∧ w.frozen? ⟨b, 7, none⟩ = false ∧ w.frozen? ⟨b, 8, none⟩ = false := ⟨h.cell 0, h.cell 1, h.cell 2, h.cell 3, h.cell 4, h.cell 5, h.cell 6, h.cell 7, h.cell 8, h.frozen 7, h.frozen 8⟩

theorem impl_ahead (a b : CaD) (va vb : Value) (w : World) : Calls Tryz.prog 47 #[CaV a va, CaV b vb] w fun e w' => e = .returned (.bool (AheadM a b)) ∧ Below w.heap.size w w' := by
  obtain ⟨x0, x1, x2, x3, x4, x5, x6, x7⟩ := a
  obtain ⟨y0, y1, y2, y3, y4, y5, y6, y7⟩ := b
  obtain ⟨W, hW⟩ : ∃ W, (w.alloc (.cells #[.int .i64 x0, .int .i64 x1, .int .i64 x2, .int .i64 x3, .int .i64 x4, .int .i64 x5, .int .i64 x6, .int .i64 x7, va] 52)).alloc (.cells #[.int .i64 y0, .int .i64 y1, .int .i64 y2, .int .i64 y3, .int .i64 y4, .int .i64 y5, .int .i64 y6, .int .i64 y7, vb] 52) = W := ⟨_, rfl⟩
  have HB : Hid (Below w.heap.size w W) := by rw [← hW]; exact ((Below.refl _ w).alloc (Nat.le_refl _) _).alloc (by simp) _
  have XA : Hid (Box W w.heap.size #[.int .i64 x0, .int .i64 x1, .int .i64 x2, .int .i64 x3, .int .i64 x4, .int .i64 x5, .int .i64 x6, .int .i64 x7, va] 52) := by rw [← hW]; exact (box_of w _ _).alloc _
  have XB : Hid (Box W (w.heap.size + 1) #[.int .i64 y0, .int .i64 y1, .int .i64 y2, .int .i64 y3, .int .i64 y4, .int .i64 y5, .int .i64 y6, .int .i64 y7, vb] 52) := by
    have := box_of (w.alloc (.cells #[.int .i64 x0, .int .i64 x1, .int .i64 x2, .int .i64 x3, .int .i64 x4, .int .i64 x5, .int .i64 x6, .int .i64 x7, va] 52)) #[.int .i64 y0, .int .i64 y1, .int .i64 y2, .int .i64 y3, .int .i64 y4, .int .i64 y5, .int .i64 y6, .int .i64 y7, vb] 52
    rw [hW] at this
    show Box _ _ _ _
    simpa using this
  have HW : Hid ((w.alloc (.cells #[.int .i64 x0, .int .i64 x1, .int .i64 x2, .int .i64 x3, .int .i64 x4, .int .i64 x5, .int .i64 x6, .int .i64 x7, va] 52)).alloc (.cells #[.int .i64 y0, .int .i64 y1, .int .i64 y2, .int .i64 y3, .int .i64 y4, .int .i64 y5, .int .i64 y6, .int .i64 y7, vb] 52) = W) := hW
  clear hW
  show Calls Tryz.prog 47 #[.agg #[.int .i64 x0, .int .i64 x1, .int .i64 x2, .int .i64 x3, .int .i64 x4, .int .i64 x5, .int .i64 x6, .int .i64 x7, va], .agg #[.int .i64 y0, .int .i64 y1, .int .i64 y2, .int .i64 y3, .int .i64 y4, .int .i64 y5, .int .i64 y6, .int .i64 y7, vb]] w fun e w' => e = .returned (.bool (decide (0 ≤ x6) && decide (x6 < y4))) ∧ Below w.heap.size w w'
  by_cases h : 0 ≤ x6
  · have D6 : Hid (decide (0 ≤ x6) = true) := decide_eq_true h
    rw [D6.out]
    clear h
    go_enter Tryz.func47, Tryz.ntmps47
    go_wp2_with fail
    rw [HW.out]
    refine (impl_ended ⟨x0, x1, x2, x3, x4, x5, x6, x7⟩ va W).mono ?_
    rintro e w2 ⟨rfl, hb2⟩
    rw [show decide (0 ≤ (⟨x0, x1, x2, x3, x4, x5, x6, x7⟩ : CaD).en) = true from D6.out]
    have HB2 : Hid (Below w.heap.size w w2) := HB.out.trans (hb2.mono HB.out.size)
    obtain ⟨s0, s1, s2, s3, s4, s5, s6, s7, s8, _, _⟩ := nineA_of (XA.out.below hb2 XA.out.lt)
    obtain ⟨t0, t1, t2, t3, t4, t5, t6, t7, t8, _, _⟩ := nineA_of (XB.out.below hb2 XB.out.lt)
    clear hb2
    go_wp2
    go_ret
    exact ⟨by simp, HB2.out⟩
  · have D6 : Hid (decide (0 ≤ x6) = false) := decide_eq_false h
    rw [D6.out]
    clear h
    go_enter Tryz.func47, Tryz.ntmps47
    go_wp2_with fail
    rw [HW.out]
    refine (impl_ended ⟨x0, x1, x2, x3, x4, x5, x6, x7⟩ va W).mono ?_
    rintro e w2 ⟨rfl, hb2⟩
    rw [show decide (0 ≤ (⟨x0, x1, x2, x3, x4, x5, x6, x7⟩ : CaD).en) = false from D6.out]
    have HB2 : Hid (Below w.heap.size w w2) := HB.out.trans (hb2.mono HB.out.size)
    obtain ⟨s0, s1, s2, s3, s4, s5, s6, s7, s8, _, _⟩ := nineA_of (XA.out.below hb2 XA.out.lt)
    obtain ⟨t0, t1, t2, t3, t4, t5, t6, t7, t8, _, _⟩ := nineA_of (XB.out.below hb2 XB.out.lt)
    clear hb2
    go_wp2
    go_ret
    exact ⟨by simp, HB2.out⟩
theorem enters_may : Enters 46 := by
  intro args w
  have hf := Tryz.func46
  go_simp
theorem CasAt.lies {w : World} {a : Option Addr} {n : Nat} {f : Nat → CaD} (h : CasAt w a n f) : ∃ V : Nat → Value, LieCall w a n (fun j => I (f j).t) (fun j => I (f j).kd) (fun j => I (f j).k) (fun j => I (f j).v) (fun j => I (f j).st) (fun j => I (f j).ln) (fun j => I (f j).en) (fun j => I (f j).cd) V := by
  rcases h.2 with h0 | ⟨b, o, h1, h2⟩
  · exact ⟨fun _ => .slice none 0 0, .inl h0⟩
  · obtain ⟨z, hz⟩ : ∃ z : Nat → Option Addr × Nat × Nat, ∀ i, i < n → CaC w b (o + i * 9) (f i) (.slice (z i).1 (z i).2.1 (z i).2.2) :=
      Go.Deep.choose_lt (p := fun i (z : Option Addr × Nat × Nat) => CaC w b (o + i * 9) (f i) (.slice z.1 z.2.1 z.2.2)) (fun i hi => let ⟨ra, rn, rc, h⟩ := h2 i hi; ⟨(ra, rn, rc), h⟩)
    exact ⟨fun j => .slice (z j).1 (z j).2.1 (z j).2.2, .inr ⟨b, o, h1, fun j hj => hz j hj⟩⟩
theorem may_one (a b : CaD) (va vb : Value) (g : Nat) (w : World) (h : Box w g (CaA b vb) 52) : Calls Tryz.prog 46 #[CaV a va, .pointer (some ⟨g, 0, none⟩)] w fun e w' => e = .returned (.bool !(AheadM a b)) ∧ Below w.heap.size w w' := by
  obtain ⟨A, hA⟩ : ∃ A, AheadM a b = A := ⟨_, rfl⟩
  have HA : Hid (AheadM a b = A) := hA
  rw [hA]
  obtain ⟨x0, x1, x2, x3, x4, x5, x6, x7⟩ := a
  obtain ⟨y0, y1, y2, y3, y4, y5, y6, y7⟩ := b
  obtain ⟨W, hW⟩ : ∃ W, w.alloc (.cells #[.int .i64 x0, .int .i64 x1, .int .i64 x2, .int .i64 x3, .int .i64 x4, .int .i64 x5, .int .i64 x6, .int .i64 x7, va] 52) = W := ⟨_, rfl⟩
  have hb0 : Below w.heap.size w W := by rw [← hW]; exact (Below.refl _ w).alloc (Nat.le_refl _) _
  have HB : Hid (Below w.heap.size w W) := hb0
  have XA : Hid (Box W w.heap.size #[.int .i64 x0, .int .i64 x1, .int .i64 x2, .int .i64 x3, .int .i64 x4, .int .i64 x5, .int .i64 x6, .int .i64 x7, va] 52) := by rw [← hW]; exact box_of w _ _
  have XB : Hid (Box W g #[.int .i64 y0, .int .i64 y1, .int .i64 y2, .int .i64 y3, .int .i64 y4, .int .i64 y5, .int .i64 y6, .int .i64 y7, vb] 52) := Box.below h hb0 (Box.lt h)
  have HW : Hid (w.alloc (.cells #[.int .i64 x0, .int .i64 x1, .int .i64 x2, .int .i64 x3, .int .i64 x4, .int .i64 x5, .int .i64 x6, .int .i64 x7, va] 52) = W) := hW
  obtain ⟨t0, t1, t2, t3, t4, t5, t6, t7, t8, _, _⟩ := nineA_of (show Box w g #[.int .i64 y0, .int .i64 y1, .int .i64 y2, .int .i64 y3, .int .i64 y4, .int .i64 y5, .int .i64 y6, .int .i64 y7, vb] 52 from h)
  have hg : g < w.heap.size := Box.lt h
  clear hW hb0 hA h
  show Calls Tryz.prog 46 #[.agg #[.int .i64 x0, .int .i64 x1, .int .i64 x2, .int .i64 x3, .int .i64 x4, .int .i64 x5, .int .i64 x6, .int .i64 x7, va], .pointer (some ⟨g, 0, none⟩)] w fun e w' => e = .returned (.bool !A) ∧ Below w.heap.size w w'
  go_enter Tryz.func46, Tryz.ntmps46
  go_wp2_with fail
  rw [HW.out]
  refine (impl_ahead ⟨x0, x1, x2, x3, x4, x5, x6, x7⟩ ⟨y0, y1, y2, y3, y4, y5, y6, y7⟩ va vb W).mono ?_
  rintro e w2 ⟨rfl, hb2⟩
  rw [HA.out]
  have HB2 : Hid (Below w.heap.size w w2) := HB.out.trans (hb2.mono HB.out.size)
  clear hb2
  go_wp2
  go_ret
  exact ⟨rfl, HB2.out⟩
theorem impl_mayBe (d : CaD) (vd : Value) (a : Option Addr) (n c : Nat) (f : Nat → CaD) (w : World) (h : CasAt w a n f) : Calls Tryz.prog 24 #[CaV d vd, .slice a n c] w fun e w' => ∃ b : Bool, (e = .returned (.bool b) ∧ (b = true ↔ ∀ j, j < n → AheadM (f j) d = false)) ∧ Below w.heap.size w w' := by
  obtain ⟨P, hP⟩ : ∃ P : Prop, (∀ j, j < n → AheadM (f j) d = false) = P := ⟨_, rfl⟩
  have HP : Hid ((∀ j, j < n → (!AheadM (f j) d) = true) ↔ P) := by
    show _ ↔ _
    rw [← hP]
    simp
  rw [hP]
  obtain ⟨dd, hdd⟩ : ∃ dd, d = dd := ⟨_, rfl⟩
  have hmf : ∀ (fn : Fn) (first cap : Array Value) (w : World), (Instr.makeFunc fn first cap).run Tryz.prog w = .ok (.func fn first cap) w := fun _ _ _ _ => rfl
  obtain ⟨W, hW⟩ : ∃ W, w.alloc (.cells (CaA d vd) 52) = W := ⟨_, rfl⟩
  have hb0 : Below w.heap.size w W := by rw [← hW]; exact (Below.refl _ w).alloc (Nat.le_refl _) _
  have HB : Hid (Below w.heap.size w W) := hb0
  have BX : Hid (Box W w.heap.size (CaA d vd) 52) := by rw [← hW]; exact box_of w _ _
  have HC : Hid (CasAt W a n f) := h.below hb0 (Nat.le_refl _)
  have hn := h.1
  have TL : Hid (∀ V : Nat → Value, TellsCall 46 #[.pointer (some ⟨w.heap.size, 0, none⟩)] n (fun j => I (f j).t) (fun j => I (f j).kd) (fun j => I (f j).k) (fun j => I (f j).v) (fun j => I (f j).st) (fun j => I (f j).ln) (fun j => I (f j).en) (fun j => I (f j).cd) V (fun j => !AheadM (f j) d) W) := fun V j _ Y hY => may_one (f j) d (V j) vd w.heap.size Y (BX.out.below hY BX.out.lt)
  have HW : Hid (w.alloc (.cells (CaA d vd) 52) = W) := hW
  clear hW hb0 hP h
  rw [hdd] at HW
  rw [show CaV d vd = CaV dd vd by rw [hdd]]
  clear BX
  obtain ⟨y0, y1, y2, y3, y4, y5, y6, y7⟩ := dd
  show Calls Tryz.prog 24 #[.agg #[.int .i64 y0, .int .i64 y1, .int .i64 y2, .int .i64 y3, .int .i64 y4, .int .i64 y5, .int .i64 y6, .int .i64 y7, vd], .slice a n c] w fun e w' => ∃ b : Bool, (e = .returned (.bool b) ∧ (b = true ↔ P)) ∧ Below w.heap.size w w'
  go_enter Tryz.func24, Tryz.ntmps24
  go_wp2_with fail
  rw [show w.alloc (.cells #[.int .i64 y0, .int .i64 y1, .int .i64 y2, .int .i64 y3, .int .i64 y4, .int .i64 y5, .int .i64 y6, .int .i64 y7, vd] 52) = W from HW.out]
  obtain ⟨V, hV⟩ := HC.out.lies
  refine (allCall 46 #[.pointer (some ⟨w.heap.size, 0, none⟩)] a n c (fun j => I (f j).t) (fun j => I (f j).kd) (fun j => I (f j).k) (fun j => I (f j).v) (fun j => I (f j).st) (fun j => I (f j).ln) (fun j => I (f j).en) (fun j => I (f j).cd) V (fun j => !AheadM (f j) d) W hn hV (TL.out V) enters_may).mono ?_
  rintro e w2 ⟨b, ⟨rfl, hb⟩, hb2⟩
  have HV : Hid (b = true ↔ P) := hb.trans HP.out
  have HB2 : Hid (Below w.heap.size w w2) := HB.out.trans (hb2.mono HB.out.size)
  clear hb hb2 hV
  go_wp2
  go_ret
  first | exact ⟨HV.out, HB2.out⟩ | exact ⟨b, ⟨rfl, HV.out⟩, HB2.out⟩
structure DescIn (W : World) (sq st : Int) (ea : Option Addr) (en : Nat) (es : List Int) (cd : Int) (ra : Option Addr) (rn : Nat) (rs : List Int) : Prop where
  we : en ≤ 9223372036854775807
  wr : rn ≤ 9223372036854775807
  ents : en ≤ 1048576 → TripAt W ea en es
  ints : rn ≤ 1048576 → IntAt W ra rn rs
def DescPre (w : World) (a : Option Addr) (n : Nat) (ds : List DK) : Prop :=
  ds.length = n ∧ n ≤ 1048576 ∧ (n = 0 ∨ ∃ b o, a = some ⟨b, o, none⟩ ∧ ∀ i, i < n → ∃ ea ec ra rc, Five w b (o + i * 5) (dk ds i) ea ec ra rc ∧ (dk ds i).en ≤ 9223372036854775807 ∧ (dk ds i).rn ≤ 9223372036854775807 ∧
    ((dk ds i).en ≤ 1048576 → TripAt w ea (dk ds i).en (dk ds i).es) ∧ ((dk ds i).rn ≤ 1048576 → IntAt w ra (dk ds i).rn (dk ds i).rs))
theorem DescPre.at {w : World} {a : Option Addr} {n : Nat} {ds : List DK} (h : DescPre w a n ds) (hs : ∀ i, i < n → (dk ds i).en ≤ 1048576 ∧ (dk ds i).rn ≤ 1048576) : DescAt w a n ds := by
  obtain ⟨h1, h2, h3 | ⟨b, o, h3, h4⟩⟩ := h
  · exact ⟨h1, h2, .inl h3⟩
  · refine ⟨h1, h2, .inr ⟨b, o, h3, fun i hi => ?_⟩⟩
    obtain ⟨ea, ec, ra, rc, h5, _, _, h6, h7⟩ := h4 i hi
    exact ⟨ea, ec, ra, rc, h5, h6 (hs i hi).1, h7 (hs i hi).2⟩
def At5 (vs : List Value) (i : Nat) (d : DK) (p q : Nat) : Prop :=
  vs[i * 5]? = some (I d.sq) ∧ vs[i * 5 + 1]? = some (I d.st) ∧ vs[i * 5 + 2]? = some (.slice (some ⟨p, 0, none⟩) d.en d.en) ∧ vs[i * 5 + 3]? = some (I d.cd) ∧ vs[i * 5 + 4]? = some (.slice (some ⟨q, 0, none⟩) d.rn d.rn)
def set5 (vs : List Value) (k : Nat) (a b c e f : Value) : List Value := ((((vs.set (k * 5) a).set (k * 5 + 1) b).set (k * 5 + 2) c).set (k * 5 + 3) e).set (k * 5 + 4) f
theorem set5_other {vs : List Value} {k j : Nat} (h : j < k * 5 ∨ k * 5 + 4 < j) (a b c e f : Value) : (set5 vs k a b c e f)[j]? = vs[j]? := by
  unfold set5
  rw [List.getElem?_set_ne (by omega), List.getElem?_set_ne (by omega), List.getElem?_set_ne (by omega), List.getElem?_set_ne (by omega), List.getElem?_set_ne (by omega)]
theorem At5.set5 {vs : List Value} {i k : Nat} {d : DK} {p q : Nat} (h : At5 vs i d p q) (hik : i ≠ k) (a b c e f : Value) : At5 (set5 vs k a b c e f) i d p q := by
  obtain ⟨h0, h1, h2, h3, h4⟩ := h
  unfold At5
  rw [set5_other (by omega), set5_other (by omega), set5_other (by omega), set5_other (by omega), set5_other (by omega)]
  exact ⟨h0, h1, h2, h3, h4⟩

theorem DescPre.below {w w' : World} {a : Option Addr} {n : Nat} {ds : List DK} (h : DescPre w a n ds) {B : Nat} (hb : Below B w w') (hB : w.heap.size ≤ B) : DescPre w' a n ds := by
  obtain ⟨q0, q1, q2 | ⟨b, o, q3, q4⟩⟩ := h
  · exact ⟨q0, q1, .inl q2⟩
  · refine ⟨q0, q1, .inr ⟨b, o, q3, fun i hi => ?_⟩⟩
    obtain ⟨ea, ec, ra, rc, z5, z6, z7, z8, z9⟩ := q4 i hi
    exact ⟨ea, ec, ra, rc, z5.below hb hB, z6, z7, fun hh => (z8 hh).below hb hB, fun hh => (z9 hh).below hb hB⟩
def Sep (F : Nat → Value) (N : Nat) : Prop := ∀ a b, a < N → b < N → a ≠ b → ∀ k, (F a).ownBlock = some k → (F b).ownBlock ≠ some k
def AtF (vs : List Value) (i : Nat) (d : DK) (v u : Value) : Prop :=
  vs[i * 5]? = some (I d.sq) ∧ vs[i * 5 + 1]? = some (I d.st) ∧ vs[i * 5 + 2]? = some v ∧ vs[i * 5 + 3]? = some (I d.cd) ∧ vs[i * 5 + 4]? = some u
theorem AtF.set {vs : List Value} {i : Nat} {d : DK} {v u : Value} (h : AtF vs i d v u) {j : Nat} (hj : j < i * 5 ∨ i * 5 + 4 < j) (x : Value) : AtF (vs.set j x) i d v u := by
  obtain ⟨h0, h1, h2, h3, h4⟩ := h
  unfold AtF
  rw [List.getElem?_set_ne (by omega), List.getElem?_set_ne (by omega), List.getElem?_set_ne (by omega), List.getElem?_set_ne (by omega), List.getElem?_set_ne (by omega)]
  exact ⟨h0, h1, h2, h3, h4⟩
abbrev MemF (F : Nat → Value) : Value := .agg #[F 0, F 1]
def Small (n : Nat) (ds : List DK) : Prop := ∀ i, i < n → (dk ds i).en ≤ 1048576 ∧ (dk ds i).rn ≤ 1048576
theorem own_emptyT {w : World} {base : Nat} {T : TypeId} {size : Nat} (hb : base ≤ w.heap.size) : (w.alloc (.cells #[] T)).ownsRow base T size (.slice (some ⟨w.heap.size, 0, none⟩) 0 0) 0 [] :=
  ⟨by simp, .inr ⟨w.heap.size, 0, #[], rfl, hb, (by show (w.heap.push _)[w.heap.size]? = _; simp), Nat.le_refl _, by unfold maxLen; omega, by simp, by simp⟩⟩
theorem eql_nil {P : Program} (w : World) {t e : TypeId} {a : Option Addr} {l c : Nat} (h : P.underlying t = some (.slice e)) : (binOp .eql t (.slice a l c) (.slice none 0 0)).run P w = .ok (.bool a.isNone) w := by
  simp [binOp, run_equal_slice_nil w t e a l c h]
theorem cell_alloc {w : World} {q : Addr} {u : Value} {o : Obj} (h : w.cell? q = some u) : (w.alloc o).cell? q = some u := by
  rw [World.cell?_of_block (Below.heap_alloc _ _ _ (World.block_lt_of_cell? w _ h))]
  exact h
theorem int_cell {w : World} {ad : Addr} {n : Nat} {es : List Int} {o : Obj} (h : IntAt w (some ad) n es) {j : Nat} {v : Value} (hj : (es.map I)[j]? = some v) : (w.alloc o).cell? (ad.add j) = some v := by
  refine cell_alloc ?_
  rw [List.getElem?_map] at hj
  have hl : j < es.length := by
    rcases Nat.lt_or_ge j es.length with h1 | h1
    · exact h1
    · rw [List.getElem?_eq_none h1] at hj; cases hj
  rcases h.2.2 with h0 | ⟨b, o, he, g⟩
  · have := h.1; omega
  · cases he
    have h1 := g j (by have := h.1; omega)
    have e : (⟨b, o, none⟩ : Addr).add j = ⟨b, o + j, none⟩ := by simp [Addr.add]
    rw [e, h1]
    rw [List.getElem?_eq_getElem hl] at hj
    simpa [List.getD, hl] using hj
theorem cloneI_o (a : Option Addr) (n c : Nat) (es : List Int) (w : World) (h : IntAt w a n es) (ha : a = none → c = 0) :
    Calls Tryz.prog 75 #[.slice a n c] w fun e w' => ∃ v, e = .returned v ∧ w'.ownsRow w.heap.size 3 1 v n (es.map I) ∧ Below w.heap.size w w' := by
  obtain ⟨i0, hi, hz0, hz1, hz2⟩ := info_parts infoInt
  rcases a with _ | ad
  · obtain rfl : c = 0 := ha rfl
    obtain rfl : n = 0 := by
      rcases h.2.2 with h0 | ⟨_, _, he, _⟩
      · exact h0
      · cases he
    have HV : Hid ((es.map I) = []) := by
      show _ = []
      rw [show es = [] from List.length_eq_zero_iff.1 (by have := h.1; simpa using this)]; rfl
    have hE : ∀ w : World, (binOp .eql 22 (.slice none 0 0) (.slice none 0 0)).run Tryz.prog w = .ok (.bool true) w := fun w => eql_nil w Tryz.underlying22
    clear h ha
    go_enter Tryz.func75, Tryz.ntmps75
    go_wp2
    go_ret
    exact ⟨_, rfl, by rw [HV.out]; exact World.ownsRow_nil _ _ _ _, Below.refl _ _⟩
  have hn := h.2.1
  have HS : Hid (((es.map I)).length = n * 1 ∧ (∀ j u, ((es.map I))[j]? = some u → (w.alloc (.cells #[] 3)).cell? (ad.add j) = some u) ∧ ∀ u ∈ (es.map I), u.oneCell' = true) := by
    exact ⟨by rw [List.length_map, h.1]; omega, fun j u hj => int_cell h hj, news_one⟩
  have hE : ∀ w : World, (binOp .eql 22 (.slice (some ad) n c) (.slice none 0 0)).run Tryz.prog w = .ok (.bool false) w := fun w => eql_nil w Tryz.underlying22
  clear h ha
  go_enter Tryz.func75, Tryz.ntmps75
  go_wp2_with
    (at_builtin
     refine wpList_append_own _ rfl _ _ 22 rfl w.heap.size 3 i0 (.int .i64 0) 1 8 Tryz.underlying22 hi hz0 hz1 hz2 rfl (by decide) (.slice (some ⟨w.heap.size, 0, none⟩) 0 0) 0 [] rfl (own_emptyT (Nat.le_refl _)) ad n c ((es.map I)) rfl HS.out.1 HS.out.2.1 HS.out.2.2 (by unfold maxLen; omega) (by omega) (by simp) ?_
     intro v' w2 own2 grow2 _)
  have hb2 : Below w.heap.size w w2 := ((Below.refl _ w).alloc (Nat.le_refl _) _).grown grow2 (by simp) (fun k e => by
    have h1 : w.heap.size = k := by simpa [Value.ownBlock] using e
    omega)
  rw [Nat.zero_add, List.nil_append] at own2
  go_ret
  exact ⟨_, rfl, own2, hb2⟩
theorem resAnew_o (code : Int) (a : Option Addr) (n c : Nat) (rs : List Int) (w : World) (h : IntAt w a n rs) (ha : a = none → c = 0) :
    Calls Tryz.prog 57 #[ResV code a n c] w fun e w' => ∃ v, e = .returned (.agg #[.int .i64 code, v]) ∧ w'.ownsRow w.heap.size 3 1 v n (rs.map I) ∧ Below w.heap.size w w' := by
  obtain ⟨W, hW⟩ : ∃ W, ((w.alloc (.cells #[.int .i64 code, .slice a n c] 50)).alloc (.cells #[.int .i64 0, .slice none 0 0] 50)) = W := ⟨_, rfl⟩
  have hb0 : Below w.heap.size w W := by rw [← hW]; exact ((Below.refl _ w).alloc (Nat.le_refl _) _).alloc (by simp) _
  have hsz : w.heap.size + 1 < W.heap.size := by rw [← hW]; simp
  have X0 : Hid (Box W w.heap.size #[.int .i64 code, .slice a n c] 50) := by rw [← hW]; exact (box_of w _ _).alloc _
  have R0 : Hid (Box W (w.heap.size + 1) #[.int .i64 0, .slice none 0 0] 50) := by
    have := box_of (w.alloc (.cells #[.int .i64 code, .slice a n c] 50)) #[.int .i64 0, .slice none 0 0] 50
    rw [hW] at this
    show Box _ _ _ _
    simpa using this
  have HA : Hid (IntAt W a n rs) := h.below hb0 (Nat.le_refl _)
  have HB0 : Hid (Below w.heap.size w W) := hb0
  have HW : Hid (((w.alloc (.cells #[.int .i64 code, .slice a n c] 50)).alloc (.cells #[.int .i64 0, .slice none 0 0] 50)) = W) := hW
  have HAN : Hid (a = none → c = 0) := ha
  obtain ⟨k0, k1, _, _⟩ := X0.out.two
  have K0 : Hid (W.drew.cell? ⟨w.heap.size, 0, none⟩ = some (.int .i64 code) ∧ W.drew.cell? ⟨w.heap.size, 1, none⟩ = some (.slice a n c)) := ⟨k0, k1⟩
  clear h ha hW hb0 k0 k1
  go_enter Tryz.func57, Tryz.ntmps57
  go_wp2_with fail
  rw [HW.out]
  go_region_held3 (fun w' => w'.cell? ⟨w.heap.size, 0, none⟩ = some (.int .i64 code) ∧ w'.cell? ⟨w.heap.size, 1, none⟩ = some (.slice a n c))
    (first | (with_reducible exact K2.out) | (with_reducible exact K1.out) | (with_reducible exact K0.out) | go_keep)
    (first
    | (go_at_call 75
       refine (cloneI_o a n c rs _ (HA.out.below (Below.refl W.heap.size W).drew (Nat.le_refl _)) HAN.out).mono ?_
       rintro e w1 ⟨v, rfl, own1, hb1⟩
       have hb1' : Below W.heap.size W w1 := (Below.refl W.heap.size W).drew.trans hb1
       obtain ⟨va, vc, rfl, _⟩ := owns_slice own1
       have OW : Hid (w1.ownsRow W.heap.size 3 1 (.slice va n vc) n (rs.map I)) := own1
       have HB1 : Hid (Below W.heap.size W w1) := hb1'
       have R1 : Hid (Box w1 (w.heap.size + 1) #[.int .i64 0, .slice none 0 0] 50) := R0.out.below hb1' hsz
       obtain ⟨r0, r1, z0, z1⟩ := R1.out.two
       obtain ⟨k0, k1, _, _⟩ := (X0.out.below hb1' X0.out.lt).two
       have K1 : Hid (w1.cell? ⟨w.heap.size, 0, none⟩ = some (.int .i64 code) ∧ w1.cell? ⟨w.heap.size, 1, none⟩ = some (.slice a n c)) := ⟨k0, k1⟩
       have K2 : Hid (((w1.setCell ⟨w.heap.size + 1, 0, none⟩ (.int .i64 code)).setCell ⟨w.heap.size + 1, 1, none⟩ (.slice va n vc)).cell? ⟨w.heap.size, 0, none⟩ = some (.int .i64 code) ∧ ((w1.setCell ⟨w.heap.size + 1, 0, none⟩ (.int .i64 code)).setCell ⟨w.heap.size + 1, 1, none⟩ (.slice va n vc)).cell? ⟨w.heap.size, 1, none⟩ = some (.slice a n c)) := by
         have := (((X0.out.below hb1' X0.out.lt).set (q := ⟨w.heap.size + 1, 0, none⟩) (show w.heap.size ≠ w.heap.size + 1 by omega) (.int .i64 code)).set (q := ⟨w.heap.size + 1, 1, none⟩) (show w.heap.size ≠ w.heap.size + 1 by omega) (.slice va n vc)).two
         exact ⟨this.1, this.2.1⟩
       clear own1 hb1 hb1' k0 k1))
  obtain ⟨e0, e1, _, _⟩ := ((R1.out.put 0 (.int .i64 code)).put 1 (.slice va n vc)).two
  go_wp2
  (try simp only [Exit.inBlock, Exit.then])
  refine bodyPost_ret (by simp [results, Tryz.results57, go_sem, e0, e1]; try rfl) rfl ?_
  have hwb : (Value.slice va n vc).ownBlock ≠ some (w.heap.size + 1) := fun e => by have := (OW.out.lt _ e).1; omega
  exact ⟨.slice va n vc, rfl, own_setCell_far (own_setCell_far (own_weaken OW.out HB0.out.size) hwb _) hwb _, ((HB0.out.trans (HB1.out.mono HB0.out.size)).setCell (by simp) _).setCell (by simp) _⟩
end
end Go.Proofs.YtecheopkfhfgkaaGreat
