/- Texts joined: DescM, ValM, Wrd1, Wrds, Ent1, Ents, ResV, Ints, ResL, Desc, SpecEntries, SpecWord. -/
import Derived.Test.YtlkdjeneggfhgaaGreatDoorQR01
import Derived.Deep.RegionHeld3
import Derived.Test.YtlkdjeneggfhgaaGreatDoorRows
import Derived.WalkKit
import Derived.ProofKit
import Derived.WalkSmall
import Derived.OpenShut
import Derived.Handy
import Derived.ChangeOld
import Derived.Lib.SmallJoins
set_option maxHeartbeats 1000000
set_option maxRecDepth 100000
namespace Go.Proofs.YtlkdjeneggfhgaaGreatDoor
def entOk (es : List Int) (i : Nat) : Prop :=
 (0 ≤ es.getD (i * 3) 0 ∧ es.getD (i * 3) 0 ≤ 19) ∧ (0 ≤ es.getD (i * 3 + 1) 0 ∧ es.getD (i * 3 + 1) 0 ≤ 1000) ∧ (0 ≤ es.getD (i * 3 + 2) 0 ∧ es.getD (i * 3 + 2) 0 ≤ 1000) ∧ (0 < i → es.getD ((i - 1) * 3) 0 < es.getD (i * 3) 0)
instance (es : List Int) (i : Nat) : Decidable (entOk es i) := by unfold entOk; infer_instance
def leastE (es : List Int) (k : Nat) : Int := if k = 0 then 0 else es.getD ((k - 1) * 3) 0 + 1
theorem leastE_ok {es : List Int} {k : Nat} (h : ∀ i, i < k → entOk es i) : 0 ≤ leastE es k ∧ leastE es k ≤ 20 := by
 unfold leastE
 split
 · omega
 · have := h (k - 1) (by omega)
   unfold entOk at this
   omega
theorem entOk_iff {es : List Int} {k : Nat} (h : ∀ i, i < k → entOk es i) : entOk es k ↔ (inB (es.getD (k * 3) 0) (leastE es k) 19 = true ∧ inB (es.getD (k * 3 + 1) 0) 0 1000 = true ∧ inB (es.getD (k * 3 + 2) 0) 0 1000 = true) := by
 have h0 := leastE_ok h
 unfold inB entOk
 simp only [decide_eq_true_eq]
 have e : leastE es k ≤ es.getD (k * 3) 0 ↔ (0 ≤ es.getD (k * 3) 0 ∧ (0 < k → es.getD ((k - 1) * 3) 0 < es.getD (k * 3) 0)) := by
   constructor
   · intro h1
     refine ⟨by omega, fun hk => ?_⟩
     unfold leastE at h1
     rw [if_neg (by omega)] at h1
     omega
   · rintro ⟨h1, h2⟩
     unfold leastE
     split
     · exact h1
     · have := h2 (by omega); omega
 rw [e]
 constructor
 · rintro ⟨⟨a, b⟩, c, d, f⟩; exact ⟨⟨⟨a, f⟩, b⟩, c, d⟩
 · rintro ⟨⟨⟨a, f⟩, b⟩, c, d⟩; exact ⟨⟨a, b⟩, c, d, f⟩
theorem entOk_low {es : List Int} : ∀ {k : Nat}, (∀ i, i < k → entOk es i) → ∀ i, i < k → (i : Int) ≤ es.getD (i * 3) 0
 | k, h, 0, hi => by have := (h 0 hi).1.1; simpa using this
 | k, h, i + 1, hi => by
   have ih := entOk_low h i (by omega)
   have h2 := (h (i + 1) hi).2.2.2 (by omega)
   rw [Nat.add_sub_cancel] at h2
   omega
theorem entOk_few {es : List Int} {k : Nat} (h : ∀ i, i < k → entOk es i) : k ≤ 20 := by
 by_cases hk : k = 0
 · omega
 · have h1 := entOk_low h (k - 1) (by omega)
   have h2 := (h (k - 1) (by omega)).1.2
   omega
def descOkM (sq st : Int) (en : Nat) (es : List Int) (cd : Int) (rn : Nat) : Bool :=
 if sq = 0 then decide (st = 0 ∧ en = 0 ∧ cd = 0 ∧ rn = 0) else (inB sq 1 1000000 && (inB st 1 3 && decide (∀ i, i < en → entOk es i)))
section
open Go.RowKit
structure DK where
 sq : Int
 st : Int
 en : Nat
 es : List Int
 cd : Int
 rn : Nat
 rs : List Int
instance : Inhabited DK := ⟨⟨0, 0, 0, [], 0, 0, []⟩⟩
def dk (ds : List DK) (i : Nat) : DK := ds.getD i default
def wordM (x t s : Int) (ds : List DK) (at_ : Int) : Int :=
 if t = 0 then x else if inB t 1 ds.length = true then
   (if (dk ds (t - 1).toNat).sq = s ∧ (dk ds (t - 1).toNat).st = 2 then (entM (dk ds (t - 1).toNat).es (dk ds (t - 1).toNat).en at_).2.2.1 else (entM (dk ds (t - 1).toNat).es (dk ds (t - 1).toNat).en at_).2.1) else 0
def valM (fs : List Int) (m : Nat) (ds : List DK) (at_ : Int) : Int :=
 if 0 ≤ at_ ∧ at_ < (m : Int) then wordM (fs.getD (at_.toNat * 3) 0) (fs.getD (at_.toNat * 3 + 1) 0) (fs.getD (at_.toNat * 3 + 2) 0) ds at_ else 0
def Five (w : World) (b p : Nat) (d : DK) (ea : Option Addr) (ec : Nat) (ra : Option Addr) (rc : Nat) : Prop :=
 w.cell? ⟨b, p, none⟩ = some (I d.sq) ∧ w.cell? ⟨b, p + 1, none⟩ = some (I d.st) ∧ w.cell? ⟨b, p + 2, none⟩ = some (.slice ea d.en ec) ∧ w.cell? ⟨b, p + 3, none⟩ = some (I d.cd) ∧ w.cell? ⟨b, p + 4, none⟩ = some (.slice ra d.rn rc)
theorem Five.below {w w' : World} {b p : Nat} {d : DK} {ea : Option Addr} {ec : Nat} {ra : Option Addr} {rc : Nat} (h : Five w b p d ea ec ra rc) {B : Nat} (hb : Below B w w') (hB : w.heap.size ≤ B) : Five w' b p d ea ec ra rc := by
 have hlt : b < B := Nat.lt_of_lt_of_le (World.block_lt_of_cell? w _ h.1) hB
 obtain ⟨h0, h1, h2, h3, h4⟩ := h
 exact ⟨(hb.cell hlt).trans h0, (hb.cell hlt).trans h1, (hb.cell hlt).trans h2, (hb.cell hlt).trans h3, (hb.cell hlt).trans h4⟩
def DescAt (w : World) (a : Option Addr) (n : Nat) (ds : List DK) : Prop :=
 ds.length = n ∧ n ≤ 1048576 ∧ (n = 0 ∨ ∃ b o, a = some ⟨b, o, none⟩ ∧ ∀ i, i < n → ∃ ea ec ra rc, Five w b (o + i * 5) (dk ds i) ea ec ra rc ∧ TripAt w ea (dk ds i).en (dk ds i).es ∧ IntAt w ra (dk ds i).rn (dk ds i).rs)
theorem DescAt.below {w w' : World} {a : Option Addr} {n : Nat} {ds : List DK} (h : DescAt w a n ds) {B : Nat} (hb : Below B w w') (hB : w.heap.size ≤ B) : DescAt w' a n ds := by
 obtain ⟨h1, h2, h3 | ⟨b, o, h3, h4⟩⟩ := h
 · exact ⟨h1, h2, .inl h3⟩
 · refine ⟨h1, h2, .inr ⟨b, o, h3, fun i hi => ?_⟩⟩
   obtain ⟨ea, ec, ra, rc, h5, h6, h7⟩ := h4 i hi
   exact ⟨ea, ec, ra, rc, h5.below hb hB, h6.below hb hB, h7.below hb hB⟩
end
section
open Go.ChangeShapes Go.WideShapes Go.ChangeAt Go.RowKit
abbrev WordV (x y z : Int) : Value := .agg #[.int .i64 x, .int .i64 y, .int .i64 z]

abbrev EntryV (x y z : Int) : Value := .agg #[.int .i64 x, .int .i64 y, .int .i64 z]

end
abbrev ResV (code : Int) (a : Option Addr) (n c : Nat) : Value := .agg #[.int .i64 code, .slice a n c]
section
open Go.ChangeShapes Go.WideShapes Go.ChangeAt Go.RowKit
def upto (xs : List Int) (k n : Nat) : List Int := xs.take k ++ List.replicate (n - k) 0
end
section
open Go.ChangeShapes Go.WideShapes Go.ChangeAt Go.RowKit Go.Joins

end
section
open Go.ChangeShapes Go.WideShapes Go.ChangeAt Go.RowKit
abbrev DescV (sq st : Int) (ea : Option Addr) (en ec : Nat) (cd : Int) (ra : Option Addr) (rn rc : Nat) : Value := .agg #[.int .i64 sq, .int .i64 st, .slice ea en ec, .int .i64 cd, .slice ra rn rc]
abbrev DescC (sq st : Int) (ea : Option Addr) (en ec : Nat) (cd : Int) (ra : Option Addr) (rn rc : Nat) : Array Value := #[.int .i64 sq, .int .i64 st, .slice ea en ec, .int .i64 cd, .slice ra rn rc]
theorem Box.desc {w : World} {b : Nat} {T : TypeId} {sq st cd : Int} {ea ra : Option Addr} {en ec rn rc : Nat} (h : Box w b (DescC sq st ea en ec cd ra rn rc) T) :
   w.cell? ⟨b, 0, none⟩ = some (.int .i64 sq) ∧ w.cell? ⟨b, 1, none⟩ = some (.int .i64 st) ∧ w.cell? ⟨b, 2, none⟩ = some (.slice ea en ec) ∧ w.cell? ⟨b, 3, none⟩ = some (.int .i64 cd) ∧ w.cell? ⟨b, 4, none⟩ = some (.slice ra rn rc) ∧
   w.frozen? ⟨b, 0, none⟩ = false ∧ w.frozen? ⟨b, 1, none⟩ = false ∧ w.frozen? ⟨b, 2, none⟩ = false ∧ w.frozen? ⟨b, 3, none⟩ = false ∧ w.frozen? ⟨b, 4, none⟩ = false :=
 ⟨h.cell 0, h.cell 1, h.cell 2, h.cell 3, h.cell 4, h.frozen 0, h.frozen 1, h.frozen 2, h.frozen 3, h.frozen 4⟩
theorem Box.three {w : World} {b : Nat} {T : TypeId} {x y z : Value} (h : Box w b #[x, y, z] T) :
   w.cell? ⟨b, 0, none⟩ = some x ∧ w.cell? ⟨b, 1, none⟩ = some y ∧ w.cell? ⟨b, 2, none⟩ = some z ∧ w.frozen? ⟨b, 0, none⟩ = false ∧ w.frozen? ⟨b, 1, none⟩ = false ∧ w.frozen? ⟨b, 2, none⟩ = false :=
 ⟨h.cell 0, h.cell 1, h.cell 2, h.frozen 0, h.frozen 1, h.frozen 2⟩
theorem specEntries_any (sq st : Int) (ea : Option Addr) (en ec : Nat) (es : List Int) (cd : Int) (ra : Option Addr) (rn rc : Nat) (at_ : Int) (w : World) (h1 : TripAt w ea en es) :
   Calls Tryz.prog 116 #[DescV sq st ea en ec cd ra rn rc, .int .i64 at_] w fun e w' => e = .returned (.tuple #[EntryV (entM es en at_).1 (entM es en at_).2.1 (entM es en at_).2.2.1, .bool (entM es en at_).2.2.2]) ∧ Below w.heap.size w w' := by
 have H1 : Hid (TripAt w ea en es) := h1
 have hn := h1.2.1
 obtain ⟨r, hr⟩ : ∃ r, entM es en at_ = r := ⟨_, rfl⟩
 rw [hr]
 have HR : Hid (entM es en at_ = r) := hr
 have HB0 : Hid (Below w.heap.size w ((w.alloc (.cells (DescC sq st ea en ec cd ra rn rc) 149)).alloc (.cells #[.int .i64 0, .int .i64 0, .int .i64 0] 154))) := ((Below.refl _ w).alloc (Nat.le_refl _) _).alloc (by simp) _
 have B1 : Hid (Box ((w.alloc (.cells (DescC sq st ea en ec cd ra rn rc) 149)).alloc (.cells #[.int .i64 0, .int .i64 0, .int .i64 0] 154)) (w.heap.size + 1) #[.int .i64 0, .int .i64 0, .int .i64 0] 154) := by
   have := box_of (w.alloc (.cells (DescC sq st ea en ec cd ra rn rc) 149)) #[.int .i64 0, .int .i64 0, .int .i64 0] 154
   simp at this
   exact this
 clear h1 hr
 go_enter Tryz.func116, Tryz.ntmps116
 go_wp2
 go_loopw [6] (fun i wr => ∃ k : Nat, k ≤ en ∧ i = .int .i64 (k : Int) ∧ (∀ i, i < k → es.getD (i * 3) 0 ≠ at_) ∧ Box wr w.heap.size (DescC sq st ea en ec cd ra rn rc) 149 ∧ Box wr (w.heap.size + 1) #[.int .i64 0, .int .i64 0, .int .i64 0] 154 ∧ Below w.heap.size w wr) (fun i _ => en - (intOf i).toNat)
 case atStart => exact ⟨0, Nat.zero_le _, rfl, fun i hi => by omega, (box_of w _ _).alloc _, B1.out, HB0.out⟩
 case round =>
   obtain ⟨k, hk, rfl, hno, hbox, hbox2, hb⟩ := hrel
   have HNO : Hid (∀ i, i < k → es.getD (i * 3) 0 ≠ at_) := hno
   have HBX : Hid (Box wr w.heap.size (DescC sq st ea en ec cd ra rn rc) 149 ∧ Box wr (w.heap.size + 1) #[.int .i64 0, .int .i64 0, .int .i64 0] 154) := ⟨hbox, hbox2⟩
   obtain ⟨_, _, x2, _, _, _, _, _, _, _⟩ := hbox.desc
   obtain ⟨y0, y1, y2, f0, f1, f2⟩ := hbox2.three
   clear hno hbox hbox2 B1 HB0
   by_cases hlt : k < en
   · rcases (H1.out.below hb (Nat.le_refl _)).2.2 with h0 | ⟨p1, o1, rfl, g1⟩
     · omega
     have hk0 : (0 : Int) ≤ (k : Int) := by omega
     have hk1 : (k : Int) < (en : Int) := by omega
     have e1 := g1 (k * 3) (by omega)
     have e2 := g1 (k * 3 + 1) (by omega)
     have e3 := g1 (k * 3 + 2) (by omega)
     obtain ⟨x, hx⟩ : ∃ x, es.getD (k * 3) 0 = x := ⟨_, rfl⟩
     obtain ⟨y, hy⟩ : ∃ y, es.getD (k * 3 + 1) 0 = y := ⟨_, rfl⟩
     obtain ⟨z, hz⟩ : ∃ z, es.getD (k * 3 + 2) 0 = z := ⟨_, rfl⟩
     have HX : Hid (es.getD (k * 3) 0 = x ∧ es.getD (k * 3 + 1) 0 = y ∧ es.getD (k * 3 + 2) 0 = z) := ⟨hx, hy, hz⟩
     rw [hx] at e1
     rw [hy, ← Nat.add_assoc] at e2
     rw [hz, ← Nat.add_assoc] at e3
     clear g1 hx hy hz
     by_cases hxa : x = at_
     · have hxb : (x == at_) = true := by simpa using hxa
       have HV : Hid (r = (x, y, z, true)) := by
         show _ = _
         obtain ⟨q1, q2, q3⟩ := HX.out
         rw [← HR.out, entM_yes (idxE_eq (Nat.le_of_lt hlt) HNO.out fun _ => q1.trans hxa) hlt, q1, q2, q3]
       clear hxa
       go_wp2
       (try simp only [Exit.inBlock, Exit.then])
       refine bodyPost_ret (v := .tuple #[EntryV x y z, .bool true]) (by simp [results, Tryz.results116, go_sem, y0, y1, y2]; try rfl) rfl ?_
       refine ⟨by rw [HV.out], ((hb.setCell (by simp) _).setCell (by simp) _).setCell (by simp) _⟩
     · have hxb : (x == at_) = false := by simpa using hxa
       have HN : Hid (∀ i, i < k + 1 → es.getD (i * 3) 0 ≠ at_) := fun i hi => by
         by_cases e : i = k
         · rw [e, HX.out.1]; exact hxa
         · exact HNO.out i (by omega)
       clear hxa
       go_wp2
       exact ⟨⟨k + 1, by omega, by go_num, HN.out, HBX.out.1, HBX.out.2, hb⟩, by simp [intOf]; omega⟩
   · obtain rfl : k = en := by omega
     have HV : Hid (r = (0, 0, 0, false)) := by show _ = _; rw [← HR.out, entM_no (idxE_eq (Nat.le_refl _) HNO.out fun h => by omega)]
     go_wp2
     (try simp only [Exit.inBlock, Exit.then])
     refine bodyPost_ret (v := .tuple #[EntryV 0 0 0, .bool false]) (by simp [results, Tryz.results116, go_sem, y0, y1, y2]; try rfl) rfl ?_
     refine ⟨by rw [HV.out], ?_⟩
     first
       | exact ((hb.setCell (by simp) _).setCell (by simp) _).setCell (by simp) _
       | exact hb
end
section
open Go.ChangeShapes Go.WideShapes Go.ChangeAt Go.RowKit Go.Joins
def wordOkM (n t s th : Int) : Bool := if t = 0 then (decide (s = 0) && inB n 0 1000) else (decide (n = 0) && (inB t 1 th && inB s 1 1000000))
theorem specWordOk_any (n t s th : Int) (w : World) : Calls Tryz.prog 115 #[WordV n t s, .int .i64 th] w fun e w' => e = .returned (.bool (wordOkM n t s th)) ∧ Below w.heap.size w w' := by
 have hb0 : Below w.heap.size w (w.alloc (.cells #[.int .i64 n, .int .i64 t, .int .i64 s] 151)) := (Below.refl _ w).alloc (Nat.le_refl _) _
 have HB : Hid _ := hb0
 clear hb0
 obtain ⟨B, hB⟩ : ∃ B, wordOkM n t s th = B := ⟨_, rfl⟩
 rw [hB]
 have HM : Hid (wordOkM n t s th = B) := hB
 clear hB
 by_cases ht : t = 0
 · subst ht
   by_cases hs : s = 0
   · subst hs
     go_enter Tryz.func115, Tryz.ntmps115
     go_wp2_with fail
     refine (l1In_g n 0 1000 _).mono ?_
     rintro e w1 ⟨rfl, rfl⟩
     rw [show inB n 0 1000 = B from by rw [← HM.out]; simp [wordOkM]]
     go_wp2
     go_ret
     exact ⟨rfl, HB.out⟩
   · have hs' : (s == 0) = false := by simpa using hs
     obtain rfl : B = false := by rw [← HM.out]; simp [wordOkM, hs]
     clear HM hs
     go_enter Tryz.func115, Tryz.ntmps115
     go_wp2
     go_ret
     exact ⟨rfl, HB.out⟩
 · have ht' : (t == 0) = false := by simpa using ht
   by_cases hn : n = 0
   · subst hn
     rcases hi : inB t 1 th with _ | _
     · obtain rfl : B = false := by rw [← HM.out]; simp [wordOkM, ht, hi]
       have HI : Hid (inB t 1 th = false) := hi
       clear HM ht hi
       go_enter Tryz.func115, Tryz.ntmps115
       go_wp2_with fail
       refine (l1In_g t 1 th _).mono ?_
       rintro e w1 ⟨rfl, rfl⟩
       rw [HI.out]
       go_wp2
       go_ret
       exact ⟨rfl, HB.out⟩
     · have HI : Hid (inB t 1 th = true) := hi
       have HS : Hid (inB s 1 1000000 = B) := by show _ = _; rw [← HM.out]; simp [wordOkM, ht, hi]
       clear HM ht hi
       go_enter Tryz.func115, Tryz.ntmps115
       go_wp2_with fail
       refine (l1In_g t 1 th _).mono ?_
       rintro e w1 ⟨rfl, rfl⟩
       rw [HI.out]
       go_wp2_with fail
       refine (l1In_g s 1 1000000 _).mono ?_
       rintro e w2 ⟨rfl, rfl⟩
       rw [HS.out]
       go_wp2
       go_ret
       exact ⟨rfl, HB.out⟩
   · have hn' : (n == 0) = false := by simpa using hn
     obtain rfl : B = false := by rw [← HM.out]; simp [wordOkM, ht, hn]
     clear HM hn ht
     go_enter Tryz.func115, Tryz.ntmps115
     go_wp2
     go_ret
     exact ⟨rfl, HB.out⟩
end
end Go.Proofs.YtlkdjeneggfhgaaGreatDoor
