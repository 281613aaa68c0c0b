/- A list of numbers that came in, opened; the laws' helpers on lists of numbers in short. -/
import Derived.Test.YtkifebhkgldefaaDoorRows
import Derived.Test.YtkifebhkgldefaaDoorInts
import Derived.Test.YtkifebhkgldefaaDoorMarkN
import Derived.Test.YtkifebhkgldefaaDoorClone
import Derived.Test.YtkifebhkgldefaaDoorOwnsF
import Derived.Test.YtkifebhkgldefaaDoorIn13
import Derived.Test.YtkifebhkgldefaaDoorLaid
import Derived.WalkKit
import Derived.ProofKit
import Derived.OpenShut
import Derived.ChangeOld
import Derived.Below
import Derived.LaidMore
import Derived.Stop.Joined
import Derived.Stop.LaidErr
import Derived.MakeChecks
import Derived.SevenTiedAt
import Derived.Lib.SmallJoins
namespace Go.Proofs.YtkifebhkgldefaaDoor
open Go.ChangeShapes Go.WideShapes Go.ChangeAt Go.RowKit Go.Joins

theorem open_list {H : Type} {enc : TypeId × Value → H} {W : World} {base : Nat} {v : Value} {d : DataW H} {p : List MemPlace} (hv : Value.okWide Tryd.prog W .any base 22 v) (h0 : ∃ m, DataW.trod enc Tryd.prog W 0 (fun _ => true) true m 22 v.cells.toList = some (d, p)) :
    ∃ a n c xs, v = .slice a n c ∧ (∀ x ∈ xs, (Lit.int .i64 x).wf = true) ∧ (n ≤ 1099511627776 → IntAt W a n xs) := by
  obtain ⟨a0, n, c, rfl⟩ := okWide_slice Tryd.underlying22 hv
  obtain ⟨fuel, hf⟩ := h0
  rcases open_ints Tryd.underlying22 Tryd.underlying3 (by kernel_rfl) hf with ⟨hcs, _⟩ | ⟨x, l, cc, zs, hcs, _, hl, hm, hz, _, hcell, hwz⟩
  · simp [Value.cells] at hcs
    obtain ⟨rfl, rfl, rfl⟩ := hcs
    exact ⟨_, _, _, [], rfl, fun x hx => by simp at hx, fun _ => ⟨rfl, by omega, .inl rfl⟩⟩
  · simp [Value.cells] at hcs
    obtain ⟨rfl, rfl, rfl⟩ := hcs
    refine ⟨_, _, _, zs.take n, rfl, fun x hx => hwz x (List.mem_of_mem_take hx), fun hn => ⟨by simp at hz; rw [List.length_take]; omega, hn, ?_⟩⟩
    by_cases h0 : n = 0
    · exact .inl h0
    · simp at hz
      obtain ⟨b, o, rfl, hc⟩ := ints_at hcell (by omega)
      refine .inr ⟨b, o, rfl, fun i hi => ?_⟩
      rw [hc i (by omega)]
      simp [List.getD, hi]
theorem eqI_same (a1 a2 : Option Addr) (n1 n2 c1 c2 : Nat) (L : List Int) (w : World) (h1 : IntAt w a1 n1 L) (h2 : IntAt w a2 n2 L) :
    Calls Tryd.prog 12 #[.slice a1 n1 c1, .slice a2 n2 c2] w fun e w' => e = .returned (.bool true) ∧ Below w.heap.size w w' := by
  refine (eqIntS_any a1 a2 n1 n2 c1 c2 L L w h1 h2).mono ?_
  rintro e w' ⟨rfl, m, rfl⟩
  exact ⟨by simp, ⟨rfl, rfl, rfl, Nat.le_refl _, fun _ _ => rfl⟩⟩
theorem heldI_row (ag : Option Addr) (n c : Nat) (w : World) (h : IntAt w ag n (marksI n)) :
    Calls Tryd.prog 20 #[.slice ag n c, .int .i64 1] w fun e w' => e = .returned (.int .i64 ((n : Int) + 1)) ∧ Below w.heap.size w w' := by
  refine (heldIntS_any ag n c w h).mono ?_
  rintro e w' ⟨rfl, m, rfl⟩
  exact ⟨rfl, ⟨rfl, rfl, rfl, Nat.le_refl _, fun _ _ => rfl⟩⟩
theorem markI_row (base : Nat) (a : Option Addr) (n cap : Nat) (xs : List Int) (w : World) (hx : xs.length = n) (hn : n ≤ 1099511627776)
    (hown : w.ownsRow base 3 1 (.slice a n cap) n (xs.map I)) :
    Calls Tryd.prog 13 #[.slice a n cap, .int .i64 1] w fun e w' => e = .returned (.int .i64 ((n : Int) + 1)) ∧ w'.ownsRow base 3 1 (.slice a n cap) n ((marksI n).map I) ∧ w.grownBy w' (Value.slice a n cap).ownBlock := by
  rcases hown.2 with ⟨hv, h0⟩ | ⟨g, c, cur, hv, hbg, hr⟩
  · obtain ⟨rfl, rfl⟩ : a = none ∧ cap = 0 := by simpa [h0] using hv
    subst h0
    refine (markIntS_none none 0 w).mono ?_
    rintro e w' ⟨rfl, rfl⟩
    exact ⟨rfl, World.ownsRow_nil _ _ _ _, rfl, rfl, rfl, Nat.le_refl _, fun _ _ _ => rfl⟩
  · obtain ⟨rfl, rfl⟩ : a = some ⟨g, 0, none⟩ ∧ cap = c := by simpa using hv
    refine (markIntS_own base g n cap xs w hx hn hown).mono ?_
    rintro e v' ⟨rfl, o, hb, hs, hk⟩
    exact ⟨rfl, o, hb.os, hb.tape, hb.output, hb.size, fun i _ hi => hk i (fun e => hi (by rw [e]; rfl))⟩
theorem own_len {w : World} {base n : Nat} {v : Value} {Y : List Int} (h : w.ownsRow base 3 1 v n (Y.map I)) : Y.length = n := by
  have := h.1
  simpa using this
theorem own_int {w : World} {base n c : Nat} {a : Option Addr} {Y : List Int} (h : w.ownsRow base 3 1 (.slice a n c) n (Y.map I)) (hn : n ≤ 1099511627776) : IntAt w a n Y := by
  obtain ⟨a', c', he, hi⟩ := own_at h hn
  cases he
  exact hi
/-- While the law goes on: all that lay there ahead of the program's argument is as it was (W2), and the program's answer is its own (from B on). -/
structure GSt (W2 : World) (B : Nat) (ga : Option Addr) (m gc : Nat) (Y : List Int) (v : World) : Prop where
  b : Below W2.heap.size W2 v
  own : v.ownsRow B 3 1 (.slice ga m gc) m (Y.map I)
  lt : W2.heap.size < B
theorem GSt.below {W2 : World} {B : Nat} {ga : Option Addr} {m gc : Nat} {Y : List Int} {v v' : World} (h : GSt W2 B ga m gc Y v) (hb : Below v.heap.size v v') : GSt W2 B ga m gc Y v' :=
  ⟨h.b.trans (hb.mono h.b.size), owns_below h.own hb (Nat.le_refl _), h.lt⟩
theorem GSt.markX {W2 : World} {B : Nat} {ga : Option Addr} {m gc : Nat} {Y : List Int} {v v' : World} (h : GSt W2 B ga m gc Y v) (hg : v.grownBy v' (some W2.heap.size)) : GSt W2 B ga m gc Y v' :=
  ⟨h.b.grown hg h.b.size (fun k e => by cases e; exact Nat.le_refl _), owns_heap h.own (fun k e => hg.block k (h.own.lt k e).2 (fun e' => by
    have h1 : W2.heap.size = k := (Option.some.inj e').symm ▸ rfl
    have h2 := (h.own.lt k e).1
    have h3 := h.lt
    omega)), h.lt⟩
theorem GSt.markG {W2 : World} {B : Nat} {ga : Option Addr} {m gc : Nat} {Y Y' : List Int} {v v' : World} (h : GSt W2 B ga m gc Y v) (hg : v.grownBy v' (Value.slice ga m gc).ownBlock) (ho : v'.ownsRow B 3 1 (.slice ga m gc) m (Y'.map I)) : GSt W2 B ga m gc Y' v' :=
  ⟨h.b.grown hg h.b.size (fun k e => by have h2 := (h.own.lt k e).1; have h3 := h.lt; omega), ho, h.lt⟩
end Go.Proofs.YtkifebhkgldefaaDoor
