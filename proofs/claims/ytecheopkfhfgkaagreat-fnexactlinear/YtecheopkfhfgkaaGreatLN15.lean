/- Texts joined: AllowR, ImplTurn, ImplAfter, AfterR. -/
import Derived.Test.YtecheopkfhfgkaaGreatLN11
import Derived.Test.YtecheopkfhfgkaaGreatLN14
import Derived.Test.YtecheopkfhfgkaaGreatLN12
import Derived.Test.YtecheopkfhfgkaaGreatLN01
import Derived.Test.YtecheopkfhfgkaaGreatLN04
set_option maxHeartbeats 4000000
set_option maxRecDepth 100000
namespace Go.Proofs.YtecheopkfhfgkaaGreat
section
open Go.ChangeShapes Go.WideShapes Go.ChangeAt Go.RowKit Go.Maps
theorem implAllowed_room (p o n1 cp n2 c2 : Nat) (a2 : Option Addr) (st kind k v code : Int) (xs ys : List Int) (w : World) (hcp : n1 ≤ cp) (hA : IntAt w (some ⟨p, o, none⟩) n1 xs) (hB : IntAt w a2 n2 ys) (hi : ∀ x ∈ xs, (Lit.int .i64 x).wf = true) :
    Calls Tryz.prog 25 #[.agg #[.slice (some ⟨p, o, none⟩) n1 cp, .int .i64 st], OpV kind k v, ResV code a2 n2 c2] w fun e w' => Says e (AllowM xs st kind k v code ys) ∧ Below w.heap.size w w' := by
  have HA : Hid (IntAt w (some ⟨p, o, none⟩) n1 xs) := hA
  have HY : Hid (IntAt w a2 n2 ys) := hB
  have HI : Hid (∀ x ∈ xs, (Lit.int .i64 x).wf = true) := hi
  have HCP : Hid (n1 ≤ cp) := hcp
  clear hA hB hi hcp
  obtain ⟨W0, hW0⟩ : ∃ W0, W0 = ((w.alloc (.cells #[.slice (some ⟨p, o, none⟩) n1 cp, .int .i64 st] 29)).alloc (.cells #[.int .i64 kind, .int .i64 k, .int .i64 v] 49)).alloc (.cells #[.int .i64 code, .slice a2 n2 c2] 50) := ⟨_, rfl⟩
  have hs0 : W0.heap.size = w.heap.size + 1 + 1 + 1 := by rw [hW0]; simp
  have HBX : Hid (∀ w', Below (w.heap.size + 1 + 1 + 1) W0 w' → (w'.cell? ⟨w.heap.size, 0, none⟩ = some (.slice (some ⟨p, o, none⟩) n1 cp) ∧ w'.cell? ⟨w.heap.size, 1, none⟩ = some (.int .i64 st) ∧ w'.cell? ⟨w.heap.size + 1, 0, none⟩ = some (.int .i64 kind) ∧ w'.cell? ⟨w.heap.size + 1, 1, none⟩ = some (.int .i64 k) ∧ w'.cell? ⟨w.heap.size + 1, 2, none⟩ = some (.int .i64 v) ∧ w'.cell? ⟨w.heap.size + 1 + 1, 0, none⟩ = some (.int .i64 code) ∧ w'.cell? ⟨w.heap.size + 1 + 1, 1, none⟩ = some (.slice a2 n2 c2)) ∧ Below w.heap.size w w') := fun w' hb => allow_boxes hW0 hb
  go_enter Tryz.func25, Tryz.ntmps25
  go_wp2_with fail
  rw [← hW0]
  clear hW0
  have hb0 : Below (w.heap.size + 1 + 1 + 1) W0 W0 := Below.refl _ _
  refine (implRowsOk_room _ n1 cp HCP.out st xs _ (HA.out.below (HBX.out _ hb0).2 (Nat.le_refl _)) HI.out).mono ?_
  rintro e w1 ⟨⟨ok, rfl, hok⟩, hb1⟩
  have hb1 : Below (w.heap.size + 1 + 1 + 1) W0 w1 := hb0.trans (hb1.mono (by omega))
  have hs1 : w.heap.size + 1 + 1 + 1 ≤ w1.heap.size := by have h := hb1.size; omega
  obtain ⟨⟨d0, d1, d2, d3, d4, d5, d6⟩, bw1⟩ := HBX.out _ hb1
  cases ok with
  | false =>
    have HN : Hid (¬ OkRows xs st) := fun h => by cases hok.2 h
    clear hok
    go_wp2
    go_ret
    exact ⟨⟨false, rfl, by simp [AllowM, HN.out]⟩, bw1⟩
  | true =>
    have HO : Hid (OkRows xs st) := hok.1 rfl
    clear hok hb0
    obtain rfl : n1 = 4 := by rw [← HA.out.1]; exact HO.out.1
    go_wp2_with fail
    refine (implOpOk_any kind k v _).mono ?_
    rintro e w2 ⟨rfl, hb2⟩
    have hb2 : Below (w.heap.size + 1 + 1 + 1) W0 w2 := hb1.trans (hb2.mono (by omega))
    have hs2 : w.heap.size + 1 + 1 + 1 ≤ w2.heap.size := by have h := hb2.size; omega
    clear d0 d1 d2 d3 d4 d5 d6 bw1 hb1 hs1
    obtain ⟨⟨d0, d1, d2, d3, d4, d5, d6⟩, bw2⟩ := HBX.out _ hb2
    by_cases hop : OpGood kind k v
    · rw [show decide (OpGood kind k v) = true from decide_eq_true hop]
      have HP : Hid (OpGood kind k v) := hop
      clear hop
      go_wp2_with fail
      go_region_held3 (fun w' => w'.cell? ⟨w.heap.size, 0, none⟩ = some (.slice (some ⟨p, o, none⟩) 4 cp) ∧ w'.cell? ⟨w.heap.size, 1, none⟩ = some (.int .i64 st) ∧ w'.cell? ⟨w.heap.size + 1, 0, none⟩ = some (.int .i64 kind) ∧ w'.cell? ⟨w.heap.size + 1, 1, none⟩ = some (.int .i64 k) ∧ w'.cell? ⟨w.heap.size + 1, 2, none⟩ = some (.int .i64 v) ∧ w'.cell? ⟨w.heap.size + 1 + 1, 0, none⟩ = some (.int .i64 code) ∧ w'.cell? ⟨w.heap.size + 1 + 1, 1, none⟩ = some (.slice a2 n2 c2))
        (first | (exact (HBX.out _ hb5).1) | (exact (HBX.out _ hb4).1) | (exact (HBX.out _ hb3).1) | (exact (HBX.out _ hb2.drew).1) | (exact (HBX.out _ hb2).1) | go_keep)
        (first
        | (go_at_call 51
           refine (implDeedOf_any kind k v _).mono ?_
           rintro e w3 ⟨rfl, hb3⟩
           have hb3 : Below (w.heap.size + 1 + 1 + 1) W0 w3 := hb2.drew.trans (hb3.mono (by simp; omega))
           have hs3 : w.heap.size + 1 + 1 + 1 ≤ w3.heap.size := by have h := hb3.size; omega)
        | (go_at_call 50
           refine (comAnyR p o cp HCP.out st kind k v xs _ (HA.out.below (HBX.out _ hb3).2 (Nat.le_refl _)) HI.out HP.out).mono ?_
           rintro e w4 ⟨⟨vv, L, rfl, hc4, ht4⟩, hb4⟩
           have hb4 : Below (w.heap.size + 1 + 1 + 1) W0 w4 := hb3.trans (hb4.mono (by omega))
           have hs4 : w.heap.size + 1 + 1 + 1 ≤ w4.heap.size := by have h := hb4.size; omega)
        | (go_at_call 49
           refine (containsFunc_any _ (w.heap.size + 1 + 1) code a2 n2 c2 ys vv L _ _ (by rw [ht4.len]; exact comLL_len _ _ _ _ _) hc4 ht4 (by omega) (HBX.out _ hb4).1.2.2.2.2.2.1 (HBX.out _ hb4).1.2.2.2.2.2.2 (HY.out.below (HBX.out _ hb4).2 (Nat.le_refl _))).mono ?_
           rintro e w5 ⟨rfl, hb5⟩
           have hb5 : Below (w.heap.size + 1 + 1 + 1) W0 w5 := hb4.trans (hb5.mono (by omega))))
      all_goals
        go_wp2
        go_ret
        refine ⟨⟨_, rfl, ?_⟩, (HBX.out _ hb5).2⟩
        rw [decide_eq_true_iff, com_mem xs st kind k v code ys ⟨HO.out.2.1, HO.out.2.2.1⟩ HP.out.1]
        exact ⟨fun h => ⟨HO.out, HP.out, h⟩, fun h => h.2.2⟩
    · rw [show decide (OpGood kind k v) = false from decide_eq_false hop]
      have HP : Hid (¬ OpGood kind k v) := hop
      clear hop
      go_wp2
      go_ret
      exact ⟨⟨false, rfl, by simp [AllowM, HP.out]⟩, bw2⟩
end
section
open Go.ChangeShapes Go.WideShapes Go.ChangeAt Go.RowKit
theorem turn_4 (base g c : Nat) (st : Int) (xs : List Int) (w : World) (hown : w.ownsRow base 3 1 (.slice (some ⟨g, 0, none⟩) 4 c) 4 (xs.map I)) (hb : base ≤ w.heap.size) (k v : Int) :
    Calls Tryz.prog 54 #[.agg #[.slice (some ⟨g, 0, none⟩) 4 c, .int .i64 st], .iface 108 (OpV 4 (k) (v))] w fun e w' => e = .returned (.agg #[.slice (some ⟨g, 0, none⟩) 4 c, .int .i64 st]) ∧ w'.ownsRow base 3 1 (.slice (some ⟨g, 0, none⟩) 4 c) 4 ((xs).map I) ∧ Below base w w' := by
  have hgl : g < w.heap.size := (hown.lt g rfl).2
  have hgb : base ≤ g := (hown.lt g rfl).1
  have OWN : Hid (w.ownsRow base 3 1 (.slice (some ⟨g, 0, none⟩) 4 c) 4 (xs.map I)) := hown
  clear hown
  have t1 : ∀ w : World, (Instr.typeAssert (.iface 108 (OpV 4 (k) (v))) 92 104 true).run Tryz.prog w = .ok (.tuple #[OpV 0 0 0, .bool false]) w := fun _ => by kernel_rfl
  have t2 : ∀ w : World, (Instr.typeAssert (.iface 108 (OpV 4 (k) (v))) 92 106 true).run Tryz.prog w = .ok (.tuple #[OpV 0 0 0, .bool false]) w := fun _ => by kernel_rfl
  have t3 : ∀ w : World, (Instr.typeAssert (.iface 108 (OpV 4 (k) (v))) 92 107 true).run Tryz.prog w = .ok (.tuple #[OpV 0 0 0, .bool false]) w := fun _ => by kernel_rfl
  have t8 : ∀ w : World, (Instr.typeAssert (.iface 108 (OpV 4 (k) (v))) 92 112 true).run Tryz.prog w = .ok (.tuple #[OpV 0 0 0, .bool false]) w := fun _ => by kernel_rfl
  have t9 : ∀ w : World, (Instr.typeAssert (.iface 108 (OpV 4 (k) (v))) 92 113 true).run Tryz.prog w = .ok (.tuple #[OpV 0 0 0, .bool false]) w := fun _ => by kernel_rfl
  go_enter Tryz.func54, Tryz.ntmps54
  go_wp2
  (try simp only [Exit.inBlock, Exit.then])
  refine bodyPost_ret (by simp [results, Tryz.results54, go_sem]; try rfl) rfl ?_
  exact ⟨rfl, (OWN.out.alloc _).alloc _, ((Below.refl base w).alloc hb _).alloc (by simp; omega) _⟩

theorem turn_5 (base g c : Nat) (st : Int) (xs : List Int) (w : World) (hown : w.ownsRow base 3 1 (.slice (some ⟨g, 0, none⟩) 4 c) 4 (xs.map I)) (hb : base ≤ w.heap.size) (k v : Int) :
    Calls Tryz.prog 54 #[.agg #[.slice (some ⟨g, 0, none⟩) 4 c, .int .i64 st], .iface 109 (OpV 5 (k) (v))] w fun e w' => e = .returned (.agg #[.slice (some ⟨g, 0, none⟩) 4 c, .int .i64 st]) ∧ w'.ownsRow base 3 1 (.slice (some ⟨g, 0, none⟩) 4 c) 4 ((xs).map I) ∧ Below base w w' := by
  have hgl : g < w.heap.size := (hown.lt g rfl).2
  have hgb : base ≤ g := (hown.lt g rfl).1
  have OWN : Hid (w.ownsRow base 3 1 (.slice (some ⟨g, 0, none⟩) 4 c) 4 (xs.map I)) := hown
  clear hown
  have t1 : ∀ w : World, (Instr.typeAssert (.iface 109 (OpV 5 (k) (v))) 92 104 true).run Tryz.prog w = .ok (.tuple #[OpV 0 0 0, .bool false]) w := fun _ => by kernel_rfl
  have t2 : ∀ w : World, (Instr.typeAssert (.iface 109 (OpV 5 (k) (v))) 92 106 true).run Tryz.prog w = .ok (.tuple #[OpV 0 0 0, .bool false]) w := fun _ => by kernel_rfl
  have t3 : ∀ w : World, (Instr.typeAssert (.iface 109 (OpV 5 (k) (v))) 92 107 true).run Tryz.prog w = .ok (.tuple #[OpV 0 0 0, .bool false]) w := fun _ => by kernel_rfl
  have t8 : ∀ w : World, (Instr.typeAssert (.iface 109 (OpV 5 (k) (v))) 92 112 true).run Tryz.prog w = .ok (.tuple #[OpV 0 0 0, .bool false]) w := fun _ => by kernel_rfl
  have t9 : ∀ w : World, (Instr.typeAssert (.iface 109 (OpV 5 (k) (v))) 92 113 true).run Tryz.prog w = .ok (.tuple #[OpV 0 0 0, .bool false]) w := fun _ => by kernel_rfl
  go_enter Tryz.func54, Tryz.ntmps54
  go_wp2
  (try simp only [Exit.inBlock, Exit.then])
  refine bodyPost_ret (by simp [results, Tryz.results54, go_sem]; try rfl) rfl ?_
  exact ⟨rfl, (OWN.out.alloc _).alloc _, ((Below.refl base w).alloc hb _).alloc (by simp; omega) _⟩

theorem turn_6 (base g c : Nat) (st : Int) (xs : List Int) (w : World) (hown : w.ownsRow base 3 1 (.slice (some ⟨g, 0, none⟩) 4 c) 4 (xs.map I)) (hb : base ≤ w.heap.size) (k v : Int) :
    Calls Tryz.prog 54 #[.agg #[.slice (some ⟨g, 0, none⟩) 4 c, .int .i64 st], .iface 110 (OpV 6 (k) (v))] w fun e w' => e = .returned (.agg #[.slice (some ⟨g, 0, none⟩) 4 c, .int .i64 st]) ∧ w'.ownsRow base 3 1 (.slice (some ⟨g, 0, none⟩) 4 c) 4 ((xs).map I) ∧ Below base w w' := by
  have hgl : g < w.heap.size := (hown.lt g rfl).2
  have hgb : base ≤ g := (hown.lt g rfl).1
  have OWN : Hid (w.ownsRow base 3 1 (.slice (some ⟨g, 0, none⟩) 4 c) 4 (xs.map I)) := hown
  clear hown
  have t1 : ∀ w : World, (Instr.typeAssert (.iface 110 (OpV 6 (k) (v))) 92 104 true).run Tryz.prog w = .ok (.tuple #[OpV 0 0 0, .bool false]) w := fun _ => by kernel_rfl
  have t2 : ∀ w : World, (Instr.typeAssert (.iface 110 (OpV 6 (k) (v))) 92 106 true).run Tryz.prog w = .ok (.tuple #[OpV 0 0 0, .bool false]) w := fun _ => by kernel_rfl
  have t3 : ∀ w : World, (Instr.typeAssert (.iface 110 (OpV 6 (k) (v))) 92 107 true).run Tryz.prog w = .ok (.tuple #[OpV 0 0 0, .bool false]) w := fun _ => by kernel_rfl
  have t8 : ∀ w : World, (Instr.typeAssert (.iface 110 (OpV 6 (k) (v))) 92 112 true).run Tryz.prog w = .ok (.tuple #[OpV 0 0 0, .bool false]) w := fun _ => by kernel_rfl
  have t9 : ∀ w : World, (Instr.typeAssert (.iface 110 (OpV 6 (k) (v))) 92 113 true).run Tryz.prog w = .ok (.tuple #[OpV 0 0 0, .bool false]) w := fun _ => by kernel_rfl
  go_enter Tryz.func54, Tryz.ntmps54
  go_wp2
  (try simp only [Exit.inBlock, Exit.then])
  refine bodyPost_ret (by simp [results, Tryz.results54, go_sem]; try rfl) rfl ?_
  exact ⟨rfl, (OWN.out.alloc _).alloc _, ((Below.refl base w).alloc hb _).alloc (by simp; omega) _⟩

theorem turn_7 (base g c : Nat) (st : Int) (xs : List Int) (w : World) (hown : w.ownsRow base 3 1 (.slice (some ⟨g, 0, none⟩) 4 c) 4 (xs.map I)) (hb : base ≤ w.heap.size) (k v : Int) :
    Calls Tryz.prog 54 #[.agg #[.slice (some ⟨g, 0, none⟩) 4 c, .int .i64 st], .iface 111 (OpV 7 (k) (v))] w fun e w' => e = .returned (.agg #[.slice (some ⟨g, 0, none⟩) 4 c, .int .i64 st]) ∧ w'.ownsRow base 3 1 (.slice (some ⟨g, 0, none⟩) 4 c) 4 ((xs).map I) ∧ Below base w w' := by
  have hgl : g < w.heap.size := (hown.lt g rfl).2
  have hgb : base ≤ g := (hown.lt g rfl).1
  have OWN : Hid (w.ownsRow base 3 1 (.slice (some ⟨g, 0, none⟩) 4 c) 4 (xs.map I)) := hown
  clear hown
  have t1 : ∀ w : World, (Instr.typeAssert (.iface 111 (OpV 7 (k) (v))) 92 104 true).run Tryz.prog w = .ok (.tuple #[OpV 0 0 0, .bool false]) w := fun _ => by kernel_rfl
  have t2 : ∀ w : World, (Instr.typeAssert (.iface 111 (OpV 7 (k) (v))) 92 106 true).run Tryz.prog w = .ok (.tuple #[OpV 0 0 0, .bool false]) w := fun _ => by kernel_rfl
  have t3 : ∀ w : World, (Instr.typeAssert (.iface 111 (OpV 7 (k) (v))) 92 107 true).run Tryz.prog w = .ok (.tuple #[OpV 0 0 0, .bool false]) w := fun _ => by kernel_rfl
  have t8 : ∀ w : World, (Instr.typeAssert (.iface 111 (OpV 7 (k) (v))) 92 112 true).run Tryz.prog w = .ok (.tuple #[OpV 0 0 0, .bool false]) w := fun _ => by kernel_rfl
  have t9 : ∀ w : World, (Instr.typeAssert (.iface 111 (OpV 7 (k) (v))) 92 113 true).run Tryz.prog w = .ok (.tuple #[OpV 0 0 0, .bool false]) w := fun _ => by kernel_rfl
  go_enter Tryz.func54, Tryz.ntmps54
  go_wp2
  (try simp only [Exit.inBlock, Exit.then])
  refine bodyPost_ret (by simp [results, Tryz.results54, go_sem]; try rfl) rfl ?_
  exact ⟨rfl, (OWN.out.alloc _).alloc _, ((Below.refl base w).alloc hb _).alloc (by simp; omega) _⟩

theorem turn_10 (base g c : Nat) (st : Int) (xs : List Int) (w : World) (hown : w.ownsRow base 3 1 (.slice (some ⟨g, 0, none⟩) 4 c) 4 (xs.map I)) (hb : base ≤ w.heap.size) (k v : Int) :
    Calls Tryz.prog 54 #[.agg #[.slice (some ⟨g, 0, none⟩) 4 c, .int .i64 st], .iface 114 (OpV 10 (k) (v))] w fun e w' => e = .returned (.agg #[.slice (some ⟨g, 0, none⟩) 4 c, .int .i64 st]) ∧ w'.ownsRow base 3 1 (.slice (some ⟨g, 0, none⟩) 4 c) 4 ((xs).map I) ∧ Below base w w' := by
  have hgl : g < w.heap.size := (hown.lt g rfl).2
  have hgb : base ≤ g := (hown.lt g rfl).1
  have OWN : Hid (w.ownsRow base 3 1 (.slice (some ⟨g, 0, none⟩) 4 c) 4 (xs.map I)) := hown
  clear hown
  have t1 : ∀ w : World, (Instr.typeAssert (.iface 114 (OpV 10 (k) (v))) 92 104 true).run Tryz.prog w = .ok (.tuple #[OpV 0 0 0, .bool false]) w := fun _ => by kernel_rfl
  have t2 : ∀ w : World, (Instr.typeAssert (.iface 114 (OpV 10 (k) (v))) 92 106 true).run Tryz.prog w = .ok (.tuple #[OpV 0 0 0, .bool false]) w := fun _ => by kernel_rfl
  have t3 : ∀ w : World, (Instr.typeAssert (.iface 114 (OpV 10 (k) (v))) 92 107 true).run Tryz.prog w = .ok (.tuple #[OpV 0 0 0, .bool false]) w := fun _ => by kernel_rfl
  have t8 : ∀ w : World, (Instr.typeAssert (.iface 114 (OpV 10 (k) (v))) 92 112 true).run Tryz.prog w = .ok (.tuple #[OpV 0 0 0, .bool false]) w := fun _ => by kernel_rfl
  have t9 : ∀ w : World, (Instr.typeAssert (.iface 114 (OpV 10 (k) (v))) 92 113 true).run Tryz.prog w = .ok (.tuple #[OpV 0 0 0, .bool false]) w := fun _ => by kernel_rfl
  go_enter Tryz.func54, Tryz.ntmps54
  go_wp2
  (try simp only [Exit.inBlock, Exit.then])
  refine bodyPost_ret (by simp [results, Tryz.results54, go_sem]; try rfl) rfl ?_
  exact ⟨rfl, (OWN.out.alloc _).alloc _, ((Below.refl base w).alloc hb _).alloc (by simp; omega) _⟩

theorem turn_8 (base g c : Nat) (st : Int) (xs : List Int) (w : World) (hown : w.ownsRow base 3 1 (.slice (some ⟨g, 0, none⟩) 4 c) 4 (xs.map I)) (hb : base ≤ w.heap.size) (k v : Int) (hst : 0 ≤ st ∧ st ≤ 5) :
    Calls Tryz.prog 54 #[.agg #[.slice (some ⟨g, 0, none⟩) 4 c, .int .i64 st], .iface 112 (OpV 8 (k) (v))] w fun e w' => e = .returned (.agg #[.slice (some ⟨g, 0, none⟩) 4 c, .int .i64 (st + 1)]) ∧ w'.ownsRow base 3 1 (.slice (some ⟨g, 0, none⟩) 4 c) 4 ((xs).map I) ∧ Below base w w' := by
  have hgl : g < w.heap.size := (hown.lt g rfl).2
  have hgb : base ≤ g := (hown.lt g rfl).1
  have OWN : Hid (w.ownsRow base 3 1 (.slice (some ⟨g, 0, none⟩) 4 c) 4 (xs.map I)) := hown
  clear hown
  have t1 : ∀ w : World, (Instr.typeAssert (.iface 112 (OpV 8 (k) (v))) 92 104 true).run Tryz.prog w = .ok (.tuple #[OpV 0 0 0, .bool false]) w := fun _ => by kernel_rfl
  have t2 : ∀ w : World, (Instr.typeAssert (.iface 112 (OpV 8 (k) (v))) 92 106 true).run Tryz.prog w = .ok (.tuple #[OpV 0 0 0, .bool false]) w := fun _ => by kernel_rfl
  have t3 : ∀ w : World, (Instr.typeAssert (.iface 112 (OpV 8 (k) (v))) 92 107 true).run Tryz.prog w = .ok (.tuple #[OpV 0 0 0, .bool false]) w := fun _ => by kernel_rfl
  have t8 : ∀ w : World, (Instr.typeAssert (.iface 112 (OpV 8 (k) (v))) 92 112 true).run Tryz.prog w = .ok (.tuple #[OpV 8 (k) (v), .bool true]) w := fun _ => by kernel_rfl
  have t9 : ∀ w : World, (Instr.typeAssert (.iface 112 (OpV 8 (k) (v))) 92 113 true).run Tryz.prog w = .ok (.tuple #[OpV 0 0 0, .bool false]) w := fun _ => by kernel_rfl
  go_enter Tryz.func54, Tryz.ntmps54
  have hst0 := hst.1
  have hst1 := hst.2
  go_wp2
  (try simp only [Exit.inBlock, Exit.then])
  refine bodyPost_ret (by simp [results, Tryz.results54, go_sem]; try rfl) rfl ?_
  exact ⟨rfl, (OWN.out.alloc _).alloc _, ((Below.refl base w).alloc hb _).alloc (by simp; omega) _⟩

theorem turn_9 (base g c : Nat) (st : Int) (xs : List Int) (w : World) (hown : w.ownsRow base 3 1 (.slice (some ⟨g, 0, none⟩) 4 c) 4 (xs.map I)) (hb : base ≤ w.heap.size) (k v : Int) (hst : 0 ≤ st ∧ st ≤ 5) :
    Calls Tryz.prog 54 #[.agg #[.slice (some ⟨g, 0, none⟩) 4 c, .int .i64 st], .iface 113 (OpV 9 (k) (v))] w fun e w' => e = .returned (.agg #[.slice (some ⟨g, 0, none⟩) 4 c, .int .i64 (st + 1)]) ∧ w'.ownsRow base 3 1 (.slice (some ⟨g, 0, none⟩) 4 c) 4 ((xs).map I) ∧ Below base w w' := by
  have hgl : g < w.heap.size := (hown.lt g rfl).2
  have hgb : base ≤ g := (hown.lt g rfl).1
  have OWN : Hid (w.ownsRow base 3 1 (.slice (some ⟨g, 0, none⟩) 4 c) 4 (xs.map I)) := hown
  clear hown
  have t1 : ∀ w : World, (Instr.typeAssert (.iface 113 (OpV 9 (k) (v))) 92 104 true).run Tryz.prog w = .ok (.tuple #[OpV 0 0 0, .bool false]) w := fun _ => by kernel_rfl
  have t2 : ∀ w : World, (Instr.typeAssert (.iface 113 (OpV 9 (k) (v))) 92 106 true).run Tryz.prog w = .ok (.tuple #[OpV 0 0 0, .bool false]) w := fun _ => by kernel_rfl
  have t3 : ∀ w : World, (Instr.typeAssert (.iface 113 (OpV 9 (k) (v))) 92 107 true).run Tryz.prog w = .ok (.tuple #[OpV 0 0 0, .bool false]) w := fun _ => by kernel_rfl
  have t8 : ∀ w : World, (Instr.typeAssert (.iface 113 (OpV 9 (k) (v))) 92 112 true).run Tryz.prog w = .ok (.tuple #[OpV 0 0 0, .bool false]) w := fun _ => by kernel_rfl
  have t9 : ∀ w : World, (Instr.typeAssert (.iface 113 (OpV 9 (k) (v))) 92 113 true).run Tryz.prog w = .ok (.tuple #[OpV 9 (k) (v), .bool true]) w := fun _ => by kernel_rfl
  go_enter Tryz.func54, Tryz.ntmps54
  have hst0 := hst.1
  have hst1 := hst.2
  go_wp2
  (try simp only [Exit.inBlock, Exit.then])
  refine bodyPost_ret (by simp [results, Tryz.results54, go_sem]; try rfl) rfl ?_
  exact ⟨rfl, (OWN.out.alloc _).alloc _, ((Below.refl base w).alloc hb _).alloc (by simp; omega) _⟩

theorem turn_1 (base g c : Nat) (st : Int) (xs : List Int) (w : World) (hown : w.ownsRow base 3 1 (.slice (some ⟨g, 0, none⟩) 4 c) 4 (xs.map I)) (hb : base ≤ w.heap.size) (m : Nat) (v : Int) (hm : m < 4) :
    Calls Tryz.prog 54 #[.agg #[.slice (some ⟨g, 0, none⟩) 4 c, .int .i64 st], .iface 104 (OpV 1 ((m : Int)) (v))] w fun e w' => e = .returned (.agg #[.slice (some ⟨g, 0, none⟩) 4 c, .int .i64 st]) ∧ w'.ownsRow base 3 1 (.slice (some ⟨g, 0, none⟩) 4 c) 4 ((xs.set m v).map I) ∧ Below base w w' := by
  have hgl : g < w.heap.size := (hown.lt g rfl).2
  have hgb : base ≤ g := (hown.lt g rfl).1
  have OWN : Hid (w.ownsRow base 3 1 (.slice (some ⟨g, 0, none⟩) 4 c) 4 (xs.map I)) := hown
  clear hown
  have t1 : ∀ w : World, (Instr.typeAssert (.iface 104 (OpV 1 ((m : Int)) (v))) 92 104 true).run Tryz.prog w = .ok (.tuple #[OpV 1 ((m : Int)) (v), .bool true]) w := fun _ => by kernel_rfl
  go_enter Tryz.func54, Tryz.ntmps54
  have hm0 : (0 : Int) ≤ (m : Int) := by omega
  have hm1 : (m : Int) < 4 := by omega
  obtain ⟨u0, hu⟩ := own_cell OWN.out hm
  have hu3 : (((w.alloc (.cells #[.slice (some ⟨g, 0, none⟩) 4 c, .int .i64 st] 29)).alloc (.cells #[.slice none 0 0, .int .i64 0] 29)).alloc (.cells #[.int .i64 1, .int .i64 m, .int .i64 v] 104)).cell? ⟨g, m, none⟩ = some u0 := by rw [World.cell?_alloc_past _ _ _ (by simp; omega), World.cell?_alloc_past _ _ _ (by simp; omega), World.cell?_alloc_past _ _ _ hgl, hu]
  have hz3 : (((w.alloc (.cells #[.slice (some ⟨g, 0, none⟩) 4 c, .int .i64 st] 29)).alloc (.cells #[.slice none 0 0, .int .i64 0] 29)).alloc (.cells #[.int .i64 1, .int .i64 m, .int .i64 v] 104)).frozen? ⟨g, m, none⟩ = false := (((OWN.out.alloc _).alloc _).alloc _).frozenAt m
  have HST : Hid (((((w.alloc (.cells #[.slice (some ⟨g, 0, none⟩) 4 c, .int .i64 st] 29)).alloc (.cells #[.slice none 0 0, .int .i64 0] 29)).alloc (.cells #[.int .i64 1, .int .i64 m, .int .i64 v] 104)).setCell ⟨g, m, none⟩ (I v)).ownsRow base 3 1 (.slice (some ⟨g, 0, none⟩) 4 c) 4 ((xs.set m v).map I)) := by
    rw [List.map_set]
    exact ((((OWN.out.alloc _).alloc _).alloc _).stored m (I v)).1
  go_wp2
  (try simp only [Exit.inBlock, Exit.then])
  refine bodyPost_ret (by simp [results, Tryz.results54, go_sem]; try rfl) rfl ?_
  exact ⟨rfl, own_setCell_far (own_setCell_far HST.out (by simp [Value.ownBlock]; omega) _) (by simp [Value.ownBlock]; omega) _, ((((((Below.refl base w).alloc hb _).alloc (by simp; omega) _).alloc (by simp; omega) _).setCell hgb _).setCell (by simp; omega) _).setCell (by simp; omega) _⟩

theorem turn_2 (base g c : Nat) (st : Int) (xs : List Int) (w : World) (hown : w.ownsRow base 3 1 (.slice (some ⟨g, 0, none⟩) 4 c) 4 (xs.map I)) (hb : base ≤ w.heap.size) (m : Nat) (v : Int) (hm : m < 4) :
    Calls Tryz.prog 54 #[.agg #[.slice (some ⟨g, 0, none⟩) 4 c, .int .i64 st], .iface 106 (OpV 2 ((m : Int)) (v))] w fun e w' => e = .returned (.agg #[.slice (some ⟨g, 0, none⟩) 4 c, .int .i64 st]) ∧ w'.ownsRow base 3 1 (.slice (some ⟨g, 0, none⟩) 4 c) 4 ((xs.set m v).map I) ∧ Below base w w' := by
  have hgl : g < w.heap.size := (hown.lt g rfl).2
  have hgb : base ≤ g := (hown.lt g rfl).1
  have OWN : Hid (w.ownsRow base 3 1 (.slice (some ⟨g, 0, none⟩) 4 c) 4 (xs.map I)) := hown
  clear hown
  have t1 : ∀ w : World, (Instr.typeAssert (.iface 106 (OpV 2 ((m : Int)) (v))) 92 104 true).run Tryz.prog w = .ok (.tuple #[OpV 0 0 0, .bool false]) w := fun _ => by kernel_rfl
  have t2 : ∀ w : World, (Instr.typeAssert (.iface 106 (OpV 2 ((m : Int)) (v))) 92 106 true).run Tryz.prog w = .ok (.tuple #[OpV 2 ((m : Int)) (v), .bool true]) w := fun _ => by kernel_rfl
  go_enter Tryz.func54, Tryz.ntmps54
  have hm0 : (0 : Int) ≤ (m : Int) := by omega
  have hm1 : (m : Int) < 4 := by omega
  obtain ⟨u0, hu⟩ := own_cell OWN.out hm
  have hu3 : (((w.alloc (.cells #[.slice (some ⟨g, 0, none⟩) 4 c, .int .i64 st] 29)).alloc (.cells #[.slice none 0 0, .int .i64 0] 29)).alloc (.cells #[.int .i64 2, .int .i64 m, .int .i64 v] 106)).cell? ⟨g, m, none⟩ = some u0 := by rw [World.cell?_alloc_past _ _ _ (by simp; omega), World.cell?_alloc_past _ _ _ (by simp; omega), World.cell?_alloc_past _ _ _ hgl, hu]
  have hz3 : (((w.alloc (.cells #[.slice (some ⟨g, 0, none⟩) 4 c, .int .i64 st] 29)).alloc (.cells #[.slice none 0 0, .int .i64 0] 29)).alloc (.cells #[.int .i64 2, .int .i64 m, .int .i64 v] 106)).frozen? ⟨g, m, none⟩ = false := (((OWN.out.alloc _).alloc _).alloc _).frozenAt m
  have HST : Hid (((((w.alloc (.cells #[.slice (some ⟨g, 0, none⟩) 4 c, .int .i64 st] 29)).alloc (.cells #[.slice none 0 0, .int .i64 0] 29)).alloc (.cells #[.int .i64 2, .int .i64 m, .int .i64 v] 106)).setCell ⟨g, m, none⟩ (I v)).ownsRow base 3 1 (.slice (some ⟨g, 0, none⟩) 4 c) 4 ((xs.set m v).map I)) := by
    rw [List.map_set]
    exact ((((OWN.out.alloc _).alloc _).alloc _).stored m (I v)).1
  go_wp2
  (try simp only [Exit.inBlock, Exit.then])
  refine bodyPost_ret (by simp [results, Tryz.results54, go_sem]; try rfl) rfl ?_
  exact ⟨rfl, own_setCell_far (own_setCell_far HST.out (by simp [Value.ownBlock]; omega) _) (by simp [Value.ownBlock]; omega) _, ((((((Below.refl base w).alloc hb _).alloc (by simp; omega) _).alloc (by simp; omega) _).setCell hgb _).setCell (by simp; omega) _).setCell (by simp; omega) _⟩

theorem turn_3 (base g c : Nat) (st : Int) (xs : List Int) (w : World) (hown : w.ownsRow base 3 1 (.slice (some ⟨g, 0, none⟩) 4 c) 4 (xs.map I)) (hb : base ≤ w.heap.size) (m : Nat) (v : Int) (hm : m < 4) :
    Calls Tryz.prog 54 #[.agg #[.slice (some ⟨g, 0, none⟩) 4 c, .int .i64 st], .iface 107 (OpV 3 ((m : Int)) (v))] w fun e w' => e = .returned (.agg #[.slice (some ⟨g, 0, none⟩) 4 c, .int .i64 st]) ∧ w'.ownsRow base 3 1 (.slice (some ⟨g, 0, none⟩) 4 c) 4 ((xs.set m 0).map I) ∧ Below base w w' := by
  have hgl : g < w.heap.size := (hown.lt g rfl).2
  have hgb : base ≤ g := (hown.lt g rfl).1
  have OWN : Hid (w.ownsRow base 3 1 (.slice (some ⟨g, 0, none⟩) 4 c) 4 (xs.map I)) := hown
  clear hown
  have t1 : ∀ w : World, (Instr.typeAssert (.iface 107 (OpV 3 ((m : Int)) (v))) 92 104 true).run Tryz.prog w = .ok (.tuple #[OpV 0 0 0, .bool false]) w := fun _ => by kernel_rfl
  have t2 : ∀ w : World, (Instr.typeAssert (.iface 107 (OpV 3 ((m : Int)) (v))) 92 106 true).run Tryz.prog w = .ok (.tuple #[OpV 0 0 0, .bool false]) w := fun _ => by kernel_rfl
  have t3 : ∀ w : World, (Instr.typeAssert (.iface 107 (OpV 3 ((m : Int)) (v))) 92 107 true).run Tryz.prog w = .ok (.tuple #[OpV 3 ((m : Int)) (v), .bool true]) w := fun _ => by kernel_rfl
  go_enter Tryz.func54, Tryz.ntmps54
  have hm0 : (0 : Int) ≤ (m : Int) := by omega
  have hm1 : (m : Int) < 4 := by omega
  obtain ⟨u0, hu⟩ := own_cell OWN.out hm
  have hu3 : (((w.alloc (.cells #[.slice (some ⟨g, 0, none⟩) 4 c, .int .i64 st] 29)).alloc (.cells #[.slice none 0 0, .int .i64 0] 29)).alloc (.cells #[.int .i64 3, .int .i64 m, .int .i64 v] 107)).cell? ⟨g, m, none⟩ = some u0 := by rw [World.cell?_alloc_past _ _ _ (by simp; omega), World.cell?_alloc_past _ _ _ (by simp; omega), World.cell?_alloc_past _ _ _ hgl, hu]
  have hz3 : (((w.alloc (.cells #[.slice (some ⟨g, 0, none⟩) 4 c, .int .i64 st] 29)).alloc (.cells #[.slice none 0 0, .int .i64 0] 29)).alloc (.cells #[.int .i64 3, .int .i64 m, .int .i64 v] 107)).frozen? ⟨g, m, none⟩ = false := (((OWN.out.alloc _).alloc _).alloc _).frozenAt m
  have HST : Hid (((((w.alloc (.cells #[.slice (some ⟨g, 0, none⟩) 4 c, .int .i64 st] 29)).alloc (.cells #[.slice none 0 0, .int .i64 0] 29)).alloc (.cells #[.int .i64 3, .int .i64 m, .int .i64 v] 107)).setCell ⟨g, m, none⟩ (I 0)).ownsRow base 3 1 (.slice (some ⟨g, 0, none⟩) 4 c) 4 ((xs.set m 0).map I)) := by
    rw [List.map_set]
    exact ((((OWN.out.alloc _).alloc _).alloc _).stored m (I 0)).1
  go_wp2
  (try simp only [Exit.inBlock, Exit.then])
  refine bodyPost_ret (by simp [results, Tryz.results54, go_sem]; try rfl) rfl ?_
  exact ⟨rfl, own_setCell_far (own_setCell_far HST.out (by simp [Value.ownBlock]; omega) _) (by simp [Value.ownBlock]; omega) _, ((((((Below.refl base w).alloc hb _).alloc (by simp; omega) _).alloc (by simp; omega) _).setCell hgb _).setCell (by simp; omega) _).setCell (by simp; omega) _⟩

def TurnM (xs : List Int) (st kind k v : Int) (zs : List Int) (st' : Int) : Prop :=
  ((kind = 1 ∨ kind = 2) ∧ zs = xs.set k.toNat v ∧ st' = st) ∨ (kind = 3 ∧ zs = xs.set k.toNat 0 ∧ st' = st) ∨ ((kind = 8 ∨ kind = 9) ∧ zs = xs ∧ st' = st + 1) ∨ ((4 ≤ kind ∧ kind ≤ 7 ∨ kind = 10) ∧ zs = xs ∧ st' = st)
theorem turn_any (base g c : Nat) (st kind k v : Int) (xs : List Int) (w : World) (hown : w.ownsRow base 3 1 (.slice (some ⟨g, 0, none⟩) 4 c) 4 (xs.map I)) (hb : base ≤ w.heap.size) (hop : OpGood kind k v) (hst : 0 ≤ st ∧ st ≤ 5) :
    Calls Tryz.prog 54 #[.agg #[.slice (some ⟨g, 0, none⟩) 4 c, .int .i64 st], DeedV kind k v] w fun e w' => ∃ zs st', e = .returned (.agg #[.slice (some ⟨g, 0, none⟩) 4 c, .int .i64 st']) ∧ TurnM xs st kind k v zs st' ∧ w'.ownsRow base 3 1 (.slice (some ⟨g, 0, none⟩) 4 c) 4 (zs.map I) ∧ Below base w w' := by
  obtain ⟨hk, hkey, _⟩ := hop
  unfold KeyGood at hkey
  rcases kinds hk with rfl | rfl | rfl | rfl | rfl | rfl | rfl | rfl | rfl | rfl
  · obtain ⟨m, rfl⟩ : ∃ m : Nat, k = m := ⟨k.toNat, by omega⟩
    refine (turn_1 base g c st xs w hown hb m v (by omega)).mono ?_
    rintro e w' ⟨rfl, ho, hbl⟩
    exact ⟨xs.set m v, st, rfl, .inl ⟨.inl rfl, by simp, rfl⟩, ho, hbl⟩
  · obtain ⟨m, rfl⟩ : ∃ m : Nat, k = m := ⟨k.toNat, by omega⟩
    refine (turn_2 base g c st xs w hown hb m v (by omega)).mono ?_
    rintro e w' ⟨rfl, ho, hbl⟩
    exact ⟨xs.set m v, st, rfl, .inl ⟨.inr rfl, by simp, rfl⟩, ho, hbl⟩
  · obtain ⟨m, rfl⟩ : ∃ m : Nat, k = m := ⟨k.toNat, by omega⟩
    refine (turn_3 base g c st xs w hown hb m v (by omega)).mono ?_
    rintro e w' ⟨rfl, ho, hbl⟩
    exact ⟨xs.set m 0, st, rfl, .inr (.inl ⟨rfl, by simp, rfl⟩), ho, hbl⟩
  · refine (turn_4 base g c st xs w hown hb k v).mono ?_
    rintro e w' ⟨rfl, ho, hbl⟩
    exact ⟨xs, st, rfl, .inr (.inr (.inr ⟨by omega, rfl, rfl⟩)), ho, hbl⟩
  · refine (turn_5 base g c st xs w hown hb k v).mono ?_
    rintro e w' ⟨rfl, ho, hbl⟩
    exact ⟨xs, st, rfl, .inr (.inr (.inr ⟨by omega, rfl, rfl⟩)), ho, hbl⟩
  · refine (turn_6 base g c st xs w hown hb k v).mono ?_
    rintro e w' ⟨rfl, ho, hbl⟩
    exact ⟨xs, st, rfl, .inr (.inr (.inr ⟨by omega, rfl, rfl⟩)), ho, hbl⟩
  · refine (turn_7 base g c st xs w hown hb k v).mono ?_
    rintro e w' ⟨rfl, ho, hbl⟩
    exact ⟨xs, st, rfl, .inr (.inr (.inr ⟨by omega, rfl, rfl⟩)), ho, hbl⟩
  · refine (turn_8 base g c st xs w hown hb k v hst).mono ?_
    rintro e w' ⟨rfl, ho, hbl⟩
    exact ⟨xs, st + 1, rfl, .inr (.inr (.inl ⟨by omega, rfl, rfl⟩)), ho, hbl⟩
  · refine (turn_9 base g c st xs w hown hb k v hst).mono ?_
    rintro e w' ⟨rfl, ho, hbl⟩
    exact ⟨xs, st + 1, rfl, .inr (.inr (.inl ⟨by omega, rfl, rfl⟩)), ho, hbl⟩
  · refine (turn_10 base g c st xs w hown hb k v).mono ?_
    rintro e w' ⟨rfl, ho, hbl⟩
    exact ⟨xs, st, rfl, .inr (.inr (.inr ⟨by omega, rfl, rfl⟩)), ho, hbl⟩
def Box0 (w : World) (b : Nat) : Prop := w.heap[b]? = some (.cells #[.slice none 0 0, .int .i64 0] 29)
theorem Box0.facts {w : World} {b : Nat} (h : Box0 w b) : w.cell? ⟨b, 0, none⟩ = some (.slice none 0 0) ∧ w.cell? ⟨b, 1, none⟩ = some (.int .i64 0) ∧ w.frozen? ⟨b, 0, none⟩ = false ∧ w.frozen? ⟨b, 1, none⟩ = false ∧ b < w.heap.size := by
  unfold Box0 at h
  exact ⟨by simp [World.cell?, h], by simp [World.cell?, h], by simp [World.frozen?, h], by simp [World.frozen?, h], (Array.getElem?_eq_some_iff.1 h).1⟩
theorem box_first {W w' : World} {b : Nat} {ob : Obj} (hb : W.heap.size = b) (hg : ((W.alloc (.cells #[.slice none 0 0, .int .i64 0] 29)).alloc ob).drew.grownBy w' (some (b + 1))) : Box0 w' b := by
  subst hb
  unfold Box0
  rw [hg.block W.heap.size (by simp; omega) (by simp)]
  show ((W.heap.push _).push _)[W.heap.size]? = _
  rw [Array.getElem?_push_lt (by simp), Array.getElem_push_eq]
theorem box_second {W w' : World} {b : Nat} {ob : Obj} (hb : W.heap.size = b) (hg : ((W.alloc ob).alloc (.cells #[.slice none 0 0, .int .i64 0] 29)).drew.grownBy w' (some b)) : Box0 w' (b + 1) := by
  subst hb
  unfold Box0
  rw [hg.block (W.heap.size + 1) (by simp) (by simp)]
  show ((W.heap.push ob).push _)[W.heap.size + 1]? = _
  rw [show W.heap.size + 1 = (W.heap.push ob).size by simp, Array.getElem?_push_size]
theorem Box0.apart {w : World} {b base n : Nat} {v : Value} {xs : List Value} (h : Box0 w b) (ho : w.ownsRow base 3 1 v n xs) : v.ownBlock ≠ some b := by
  intro e
  rcases ho.2 with ⟨rfl, _⟩ | ⟨g, cap, cur, rfl, _, hg, _⟩
  · simp [Value.ownBlock] at e
  · have e' : g = b := by simpa [Value.ownBlock] using e
    subst e'
    unfold Box0 at h
    rw [hg] at h
    simp at h
theorem stored_box {w : World} {b : Nat} {u0 u1 : Value} (h0 : w.cell? ⟨b, 0, none⟩ = some u0) (h1 : w.cell? ⟨b, 1, none⟩ = some u1) (x y : Value) :
    ((w.setCell ⟨b, 0, none⟩ x).setCell ⟨b, 1, none⟩ y).cell? ⟨b, 0, none⟩ = some x ∧ ((w.setCell ⟨b, 0, none⟩ x).setCell ⟨b, 1, none⟩ y).cell? ⟨b, 1, none⟩ = some y := by
  refine ⟨?_, ?_⟩
  · rw [World.cell?_setCell_other _ _ _ _ (fun e => by cases e), World.cell?_setCell_same _ _ _ h0]
  · refine World.cell?_setCell_same _ _ _ (u := u1) ?_
    rw [World.cell?_setCell_other _ _ _ _ (fun e => by cases e)]
    exact h1
theorem own_empty_at {w : World} {base g : Nat} (hg : w.heap.size = g) (hb : base ≤ g) : (w.alloc (.cells #[] 3)).ownsRow base 3 1 (.slice (some ⟨g, 0, none⟩) 0 0) 0 [] := by
  subst hg
  exact own_empty hb
theorem own_empty_box_drew {w : World} {base g : Nat} {ob : Obj} (hg : w.heap.size = g) (hb : base ≤ g) : ((w.alloc (.cells #[] 3)).alloc ob).drew.ownsRow base 3 1 (.slice (some ⟨g, 0, none⟩) 0 0) 0 [] := (own_empty_at hg hb).alloc ob
theorem news_of {w : World} {p o n : Nat} {xs : List Int} (h : IntAt w (some ⟨p, o, none⟩) n xs) : ∀ (j : Nat) (u : Value), (xs.map I)[j]? = some u → w.cell? ((⟨p, o, none⟩ : Addr).add j) = some u := by
  intro j u hj
  have hl := h.1
  have hj' : j < n := by
    rcases Nat.lt_or_ge j n with h1 | h1
    · exact h1
    · rw [List.getElem?_eq_none (by simp; omega)] at hj; cases hj
  have e : (⟨p, o, none⟩ : Addr).add j = ⟨p, o + j, none⟩ := by simp [Addr.add]
  rw [e, h.cells j hj']
  rw [List.getElem?_map, List.getElem?_eq_getElem (by omega)] at hj
  simpa [List.getD, show j < xs.length by omega] using hj
theorem implAfter_room (a2 : Option Addr) (p o n cp n2 c2 : Nat) (st kind k v code : Int) (xs ys : List Int) (w : World) (hcp : n ≤ cp) (hA : IntAt w (some ⟨p, o, none⟩) n xs) (h2 : IntAt w a2 n2 ys) (hi : ∀ x ∈ xs, (Lit.int .i64 x).wf = true) :
    Calls Tryz.prog 26 #[.agg #[.slice (some ⟨p, o, none⟩) n cp, .int .i64 st], OpV kind k v, ResV code a2 n2 c2] w fun e w' => AfterSays e w w' n (AfterM xs st kind k v code ys) ∧ Below w.heap.size w w' := by
  obtain ⟨i0, hi0, hz0, hz1, hz2⟩ := info_parts infoInt
  have HA : Hid (IntAt w (some ⟨p, o, none⟩) n xs) := hA
  have HL : Hid (xs.length = n) := hA.1
  have hn := hA.2.1
  have H2 : Hid (IntAt w a2 n2 ys) := h2
  have HI : Hid (∀ x ∈ xs, (Lit.int .i64 x).wf = true) := hi
  have HCP : Hid (n ≤ cp) := hcp
  clear hA h2 hi hcp
  obtain ⟨W4, hW4⟩ : ∃ W4, W4 = ((((w.alloc (.cells #[.slice (some ⟨p, o, none⟩) n cp, .int .i64 st] 29)).alloc (.cells #[.int .i64 kind, .int .i64 k, .int .i64 v] 49)).alloc (.cells #[.int .i64 code, .slice a2 n2 c2] 50)).alloc (.cells #[.slice none 0 0, .int .i64 0] 29)) := ⟨_, rfl⟩
  have hs4 : W4.heap.size = w.heap.size + 1 + 1 + 1 + 1 := by rw [hW4]; simp
  have HC : Hid (∀ wr, Below (w.heap.size + 1 + 1 + 1 + 1) W4 wr → Four w #[.slice (some ⟨p, o, none⟩) n cp, .int .i64 st] #[.int .i64 kind, .int .i64 k, .int .i64 v] #[.int .i64 code, .slice a2 n2 c2] #[.slice none 0 0, .int .i64 0] wr ∧ Below w.heap.size w wr) := fun wr hb => by
    rw [hW4] at hb
    exact ⟨four_at w _ _ _ _ _ _ _ _ wr hb, (((((Below.refl _ w).alloc (Nat.le_refl _) _).alloc (by simp) _).alloc (by simp; omega) _).alloc (by simp; omega) _).trans (hb.mono (by omega))⟩
  have HBX : Hid (∀ wr, Below (w.heap.size + 1 + 1 + 1 + 1) W4 wr → wr.cell? ⟨w.heap.size, 0, none⟩ = some (.slice (some ⟨p, o, none⟩) n cp) ∧ wr.cell? ⟨w.heap.size, 1, none⟩ = some (.int .i64 st)) := fun wr hb => ⟨(HC.out wr hb).1.1 0 _ rfl, (HC.out wr hb).1.1 1 _ rfl⟩
  go_enter Tryz.func26, Tryz.ntmps26
  go_wp2_with fail
  rw [← hW4]
  clear hW4
  have hb4 : Below (w.heap.size + 1 + 1 + 1 + 1) W4 W4 := Below.refl _ _
  refine Code.wp_mono (Q := Exit.then (fun a' w' => ∃ (b e : Nat) (a9 : Option Addr) (c9 : Nat), a' = ⟨List.toArray (Value.agg #[Value.slice (some ⟨p, o, none⟩) n cp, Value.int IntKind.i64 st] :: OpV kind k v :: ResV code a2 n2 c2 :: Value.pointer (some ⟨w.heap.size, 0, none⟩) :: Value.pointer (some ⟨w.heap.size + 1, 0, none⟩) :: Value.pointer (some ⟨w.heap.size + 1 + 1, 0, none⟩) :: Value.pointer (some ⟨w.heap.size + 1 + 1 + 1, 0, none⟩) :: Value.pointer (some ⟨b, 0, none⟩) :: Value.slice (some ⟨e, 0, none⟩) 0 0 :: Value.pointer (some ⟨w.heap.size, 0, none⟩) :: Value.slice (some ⟨p, o, none⟩) n cp :: Value.slice a9 n c9 :: Value.pointer (some ⟨w.heap.size, 1, none⟩) :: Value.int IntKind.i64 st :: Value.agg #[Value.slice a9 n c9, Value.int IntKind.i64 st] :: undef :: undef :: undef :: undef :: undef :: undef :: undef :: undef :: undef :: undef :: undef :: undef :: undef :: undef :: undef :: []), []⟩ ∧ w'.cell? ⟨b, 0, none⟩ = some (.slice a9 n c9) ∧ w'.cell? ⟨b, 1, none⟩ = some (.int .i64 st) ∧ b < w'.heap.size ∧ (w.heap.size + 1 + 1 + 1 + 1) ≤ b ∧ w'.ownsRow (w.heap.size + 1 + 1 + 1 + 1) 3 1 (.slice a9 n c9) n (xs.map I) ∧ Below (w.heap.size + 1 + 1 + 1 + 1) W4 w') (fun _ _ _ => False)) ?rest ?reg
  case reg =>
    go_region_held3 (fun w' => w'.cell? ⟨w.heap.size, 0, none⟩ = some (.slice (some ⟨p, o, none⟩) n cp) ∧ w'.cell? ⟨w.heap.size, 1, none⟩ = some (.int .i64 st))
      (first | (exact HBX.out _ hb9) | (exact HBX.out _ (hb9.alloc (by omega) _)) | (exact HBX.out _ (hb9.setCell bge _)) | (exact HBX.out _ ((hb9.setCell bge _).setCell bge _)) | (exact HBX.out _ hb4.drew) | (exact HBX.out _ (hb4.alloc (by omega) _).drew) | (exact HBX.out _ ((hb4.alloc (by omega) _).alloc (by simp; omega) _).drew) | go_keep)
      (first
      | (refine step_append_own _ (by rfl) _ _ 22 (by rfl) (w.heap.size + 1 + 1 + 1 + 1) 3 i0 (.int .i64 0) 1 8 Tryz.underlying22 hi0 hz0 hz1 hz2 (by rfl) (by decide) _ 0 [] (by rfl) (by first | exact own_empty_drew (by simp [hs4]) (by omega) | exact own_empty_box_drew hs4 (by omega)) ⟨p, o, none⟩ n cp (xs.map I) (by rfl) (news_len HL.out) (news_of (HA.out.below (HC.out _ (by first | exact (hb4.alloc (by omega) _).drew | exact ((hb4.alloc (by omega) _).alloc (by simp; omega) _).drew)).2 (Nat.le_refl _))) news_one (by unfold maxLen; omega) (by omega) (by simp [hs4]) ?_
         intro v' w9 hown hgrow _
         have hown2 : w9.ownsRow (w.heap.size + 1 + 1 + 1 + 1) 3 1 v' n (xs.map I) := by simpa using hown
         obtain ⟨a9, c9, rfl, hat⟩ := own_at hown2 hn
         have hb9 : Below (w.heap.size + 1 + 1 + 1 + 1) W4 w9 := (show Below (w.heap.size + 1 + 1 + 1 + 1) W4 _ by first | exact (hb4.alloc (by omega) _).drew | exact ((hb4.alloc (by omega) _).alloc (by simp; omega) _).drew).grown hgrow (by simp [hs4]) (fun k e => by cases e; first | exact Nat.le_refl _ | exact Nat.le_succ _)
         have hs9 : w.heap.size + 1 + 1 + 1 + 1 ≤ w9.heap.size := by have h := hb9.size; omega
         first
           | (have hx := box_first hs4 hgrow
              have hne := hx.apart hown2
              obtain ⟨k0, k1, z0, z1, kl⟩ := hx.facts
              have bge : (w.heap.size + 1 + 1 + 1 + 1) ≤ w.heap.size + 1 + 1 + 1 + 1 := Nat.le_refl _)
           | (have hx := box_second hs4 hgrow
              have hne := hx.apart hown2
              obtain ⟨k0, k1, z0, z1, kl⟩ := hx.facts
              have bge : (w.heap.size + 1 + 1 + 1 + 1) ≤ w.heap.size + 1 + 1 + 1 + 1 + 1 := by omega)
           | skip))
    all_goals first
      | exact ⟨_, _, a9, c9, rfl, by simp, by simp, by simp, hs9, hown2.alloc _, hb9.alloc hs9 _⟩
      | exact ⟨_, _, a9, c9, rfl, (stored_box k0 k1 _ _).1, (stored_box k0 k1 _ _).2, by simpa [World.setCell] using kl, bge, own_setCell_far (own_setCell_far hown2 hne _) hne _, (hb9.setCell bge _).setCell bge _⟩
  case rest =>
    intro ex a' w9 h
    cases ex
    case normal =>
      obtain ⟨b, e, a9, c9, rfl, k0, k1, kl, bge, own9, hb9⟩ := h
      have hs9 : (w.heap.size + 1 + 1 + 1 + 1) ≤ w9.heap.size := by have h := hb9.size; omega
      have HB9 : Hid (Below (w.heap.size + 1 + 1 + 1 + 1) W4 w9) := hb9
      have OWN9 : Hid (w9.ownsRow (w.heap.size + 1 + 1 + 1 + 1) 3 1 (.slice a9 n c9) n (xs.map I)) := own9
      have c0 := (HC.out _ hb9).1.1 0 _ rfl
      have c1 := (HC.out _ hb9).1.1 1 _ rfl
      have d0 := (HC.out _ hb9).1.2.1 0 _ rfl
      have d1 := (HC.out _ hb9).1.2.1 1 _ rfl
      have d2 := (HC.out _ hb9).1.2.1 2 _ rfl
      have f0 := (HC.out _ hb9).1.2.2.1 0 _ rfl
      have f1 := (HC.out _ hb9).1.2.2.1 1 _ rfl
      have v0 := (HC.out _ hb9).1.2.2.2.1 0 _ rfl
      have v1 := (HC.out _ hb9).1.2.2.2.1 1 _ rfl
      have y0 := (HC.out _ hb9).1.2.2.2.2 0
      have y1 := (HC.out _ hb9).1.2.2.2.2 1
      clear own9 hb4 hi0 hz0 hz1 hz2
      by_cases hc : code = 0
      · subst hc
        go_wp2_with fail
        refine (implAllowed_room p o n cp n2 c2 a2 st kind k v 0 xs ys _ HCP.out (HA.out.below (HC.out _ HB9.out).2 (Nat.le_refl _)) (H2.out.below (HC.out _ HB9.out).2 (Nat.le_refl _)) HI.out).mono ?_
        rintro e' w10 ⟨⟨ok, rfl, hok⟩, hb10⟩
        have HOK : Hid (ok = true ↔ AllowM xs st kind k v 0 ys) := hok
        have OWN10 : Hid (w10.ownsRow (w.heap.size + 1 + 1 + 1 + 1) 3 1 (.slice a9 n c9) n (xs.map I)) := owns_below OWN9.out hb10 (Nat.le_refl _)
        have k0 : w10.cell? ⟨b, 0, none⟩ = some (.slice a9 n c9) := (hb10.cell (show b < _ from kl)).trans k0
        have k1 : w10.cell? ⟨b, 1, none⟩ = some (.int .i64 st) := (hb10.cell (show b < _ from kl)).trans k1
        have hbA : Below (w.heap.size + 1 + 1 + 1 + 1) W4 w10 := HB9.out.trans (hb10.mono hs9)
        have hs10 : (w.heap.size + 1 + 1 + 1 + 1) ≤ w10.heap.size := by have h := hbA.size; omega
        have HB10 : Hid (Below (w.heap.size + 1 + 1 + 1 + 1) W4 w10) := hbA
        have hbl10 : b < w10.heap.size := Nat.lt_of_lt_of_le kl hb10.size
        clear c0 c1 d0 d1 d2 f0 f1 v0 v1 y0 y1 hb9
        have c0 := (HC.out _ hbA).1.1 0 _ rfl
        have c1 := (HC.out _ hbA).1.1 1 _ rfl
        have d0 := (HC.out _ hbA).1.2.1 0 _ rfl
        have d1 := (HC.out _ hbA).1.2.1 1 _ rfl
        have d2 := (HC.out _ hbA).1.2.1 2 _ rfl
        have v0 := (HC.out _ hbA).1.2.2.2.1 0 _ rfl
        have v1 := (HC.out _ hbA).1.2.2.2.1 1 _ rfl
        have y0 := (HC.out _ hbA).1.2.2.2.2 0
        have y1 := (HC.out _ hbA).1.2.2.2.2 1
        clear hok hb10 hbA
        cases ok
        · have HM : Hid (AfterM xs st kind k v 0 ys xs st) := .inr ⟨fun h => (by have := HOK.out.2 h.1; cases this), rfl, rfl⟩
          go_wp2
          (try simp only [Exit.inBlock, Exit.then])
          refine bodyPost_ret (by simp [results, Tryz.results26, go_sem, v0, v1]; try rfl) rfl ?_
          exact ⟨⟨xs, st, a9, c9, rfl, HM.out, own_weaken (ownsRow_setCell_below (ownsRow_setCell_below OWN10.out (by simp) _) (by simp) _) (by omega)⟩, (((HC.out _ HB10.out).2).setCell (by simp; omega) _).setCell (by simp; omega) _⟩
        · have hal := HOK.out.1 rfl
          obtain rfl : n = 4 := by rw [← HL.out]; exact hal.1.1
          have HAL : Hid (AllowM xs st kind k v 0 ys) := hal
          clear hal HOK
          obtain ⟨g, rfl⟩ : ∃ g, a9 = some ⟨g, 0, none⟩ := by
            rcases OWN10.out.2 with ⟨_, h0⟩ | ⟨g, cap, cur, hv, _⟩
            · omega
            · simp only [Value.slice.injEq] at hv
              exact ⟨g, hv.1⟩
          go_wp2_with fail
          go_region_with (first
            | (go_at_call 51
               refine (implDeedOf_any kind k v _).mono ?_
               rintro e11 w11 ⟨rfl, hb11⟩
               have k0 : w11.cell? ⟨b, 0, none⟩ = some (.slice (some ⟨g, 0, none⟩) 4 c9) := (hb11.cell (show b < _ by simpa using hbl10)).trans (by simpa using k0)
               have k1 : w11.cell? ⟨b, 1, none⟩ = some (.int .i64 st) := (hb11.cell (show b < _ by simpa using hbl10)).trans (by simpa using k1)
               have HB11 : Hid (Below (w.heap.size + 1 + 1 + 1 + 1) W4 w11) := HB10.out.drew.trans (hb11.mono (by simpa using hs10))
               have OWN11 : Hid (w11.ownsRow (w.heap.size + 1 + 1 + 1 + 1) 3 1 (.slice (some ⟨g, 0, none⟩) 4 c9) 4 (xs.map I)) := owns_below (w := w10.drew) OWN10.out hb11 (Nat.le_refl _)
               have hs11 : (w.heap.size + 1 + 1 + 1 + 1) ≤ w11.heap.size := by have h := HB11.out.size; omega
               clear hb11)
            | (go_at_call 54
               refine (turn_any (w.heap.size + 1 + 1 + 1 + 1) g c9 st kind k v xs _ OWN11.out hs11 HAL.out.2.1 ⟨HAL.out.1.2.1, HAL.out.1.2.2.1⟩).mono ?_
               rintro e12 w12 ⟨zs, st', rfl, hT, own12, hb12⟩
               have HT : Hid (TurnM xs st kind k v zs st') := hT
               have OWN12 : Hid (w12.ownsRow (w.heap.size + 1 + 1 + 1 + 1) 3 1 (.slice (some ⟨g, 0, none⟩) 4 c9) 4 (zs.map I)) := own12
               have hbB : Below (w.heap.size + 1 + 1 + 1 + 1) W4 w12 := HB11.out.trans hb12
               have HB12 : Hid (Below (w.heap.size + 1 + 1 + 1 + 1) W4 w12) := hbB
               have v0 := (HC.out _ hbB).1.2.2.2.1 0 _ rfl
               have v1 := (HC.out _ hbB).1.2.2.2.1 1 _ rfl
               have y0 := (HC.out _ hbB).1.2.2.2.2 0
               have y1 := (HC.out _ hbB).1.2.2.2.2 1
               have hs12 : (w.heap.size + 1 + 1 + 1 + 1) ≤ w12.heap.size := by have h := hbB.size; omega
               clear own12 hb12 hbB hT))
          all_goals
            go_wp2
            (try simp only [Exit.inBlock, Exit.then])
            refine bodyPost_ret (by simp [results, Tryz.results26, go_sem, v0, v1]; try rfl) rfl ?_
            exact ⟨⟨zs, st', some ⟨g, 0, none⟩, c9, rfl, .inl ⟨HAL.out, rfl, HT.out⟩, own_weaken (ownsRow_setCell_below (ownsRow_setCell_below OWN12.out (by simp) _) (by simp) _) (by omega)⟩, (((HC.out _ HB12.out).2).setCell (by simp; omega) _).setCell (by simp; omega) _⟩
      · have hc' : (code != 0) = true := by simpa using hc
        have HM : Hid (AfterM xs st kind k v code ys xs st) := .inr ⟨fun h => hc h.2, rfl, rfl⟩
        clear hc
        go_wp2
        (try simp only [Exit.inBlock, Exit.then])
        refine bodyPost_ret (by simp [results, Tryz.results26, go_sem, v0, v1]; try rfl) rfl ?_
        exact ⟨⟨xs, st, a9, c9, rfl, HM.out, own_weaken (ownsRow_setCell_below (ownsRow_setCell_below OWN9.out (by simp) _) (by simp) _) (by omega)⟩, (((HC.out _ HB9.out).2).setCell (by simp; omega) _).setCell (by simp; omega) _⟩
    all_goals exact h.elim
end
end Go.Proofs.YtecheopkfhfgkaaGreat
