/- Texts joined: InB, Mch, EntriesM, DescM, ValM, Wrd1, Wrds, Ent1, Ents, ResV, Ints, ResL, Desc, SpecEntries. -/
import Derived.Test.YtcfimaffeopbbaaGreatDoorRows
import Derived.WalkKit
import Derived.ProofKit
import Derived.Test.YtcfimaffeopbbaaGreatDoorQM03
import Derived.Test.YtcfimaffeopbbaaGreatDoorQM01
import Derived.Deep.RegionHeld3
import Derived.WalkSmall
import Derived.OpenShut
import Derived.Handy
import Derived.ChangeOld
import Derived.Lib.SmallJoins
set_option maxHeartbeats 1000000
set_option maxRecDepth 100000
namespace Go.Proofs.YtcfimaffeopbbaaGreatDoor
section
open Go.ChangeShapes Go.WideShapes Go.ChangeAt Go.RowKit
def inB (x lo hi : Int) : Bool := decide (lo ≤ x ∧ x ≤ hi)
theorem inB_yes {x lo hi : Int} (h : lo ≤ x ∧ x ≤ hi) : inB x lo hi = true := decide_eq_true h
theorem inB_no {x lo hi : Int} (h : ¬ (lo ≤ x ∧ x ≤ hi)) : inB x lo hi = false := decide_eq_false h
theorem inB_val {x lo hi : Int} (h : inB x lo hi = true) : lo ≤ x ∧ x ≤ hi := by unfold inB at h; simpa using h
theorem l1In_g (x lo hi : Int) (w : World) : Calls Tryz.prog 45 #[.int .i64 x, .int .i64 lo, .int .i64 hi] w fun e w' => e = .returned (.bool (inB x lo hi)) ∧ w' = w := by
 by_cases h0 : lo ≤ x
 · by_cases h1 : x ≤ hi
   · rw [inB_yes ⟨h0, h1⟩]
     go_enter Tryz.func45, Tryz.ntmps45
     go_wp2
     go_ret
     exact ⟨rfl, rfl⟩
   · rw [inB_no (fun h => h1 h.2)]
     go_enter Tryz.func45, Tryz.ntmps45
     go_wp2
     go_ret
     exact ⟨rfl, rfl⟩
 · rw [inB_no (fun h => h0 h.1)]
   go_enter Tryz.func45, Tryz.ntmps45
   go_wp2
   go_ret
   exact ⟨rfl, rfl⟩
end
section
open Go.ChangeShapes Go.WideShapes Go.ChangeAt Go.RowKit Go.Joins
structure ThD where
 n0 : Nat
 fs : List Int
 pc : Int
 on : Bool
 n1 : Nat
 gs : List Int
 n2 : Nat
 hs : List Int
structure CaD where
 t : Int
 kd : Int
 k : Int
 v : Int
 st : Int
 ln : Int
 en : Int
 cd : Int
structure ThL (w : World) (a0 a1 a2 : Option Addr) (t : ThD) : Prop where
 ops : KAt 3 w a0 t.n0 t.fs
 got : KAt 2 w a1 t.n1 t.gs
 stk : KAt 4 w a2 t.n2 t.hs
theorem ThL.below {w w' : World} {a0 a1 a2 : Option Addr} {t : ThD} (h : ThL w a0 a1 a2 t) {B : Nat} (hb : Below B w w') (hB : w.heap.size ≤ B) : ThL w' a0 a1 a2 t :=
 ⟨h.ops.below hb hB, h.got.below hb hB, h.stk.below hb hB⟩
def ThC (w : World) (b p : Nat) (t : ThD) (a0 : Option Addr) (c0 : Nat) (a1 : Option Addr) (c1 : Nat) (a2 : Option Addr) (c2 : Nat) : Prop :=
 w.cell? ⟨b, p, none⟩ = some (.slice a0 t.n0 c0) ∧ w.cell? ⟨b, p + 1, none⟩ = some (I t.pc) ∧ w.cell? ⟨b, p + 2, none⟩ = some (.bool t.on) ∧ w.cell? ⟨b, p + 3, none⟩ = some (.slice a1 t.n1 c1) ∧ w.cell? ⟨b, p + 4, none⟩ = some (.slice a2 t.n2 c2)
theorem ThC.below {w w' : World} {b p : Nat} {t : ThD} {a0 a1 a2 : Option Addr} {c0 c1 c2 : Nat} (h : ThC w b p t a0 c0 a1 c1 a2 c2) {B : Nat} (hb : Below B w w') (hB : w.heap.size ≤ B) : ThC w' b p t a0 c0 a1 c1 a2 c2 := by
 have hlt : b < B := Nat.lt_of_lt_of_le (World.block_lt_of_cell? w _ h.1) hB
 obtain ⟨h0, h1, h2, h3, h4⟩ := h
 exact ⟨(hb.cell hlt).trans h0, (hb.cell hlt).trans h1, (hb.cell hlt).trans h2, (hb.cell hlt).trans h3, (hb.cell hlt).trans h4⟩
def ThsAt (w : World) (a : Option Addr) (n : Nat) (ts : Nat → ThD) : Prop :=
 n ≤ 2097152 ∧ (n = 0 ∨ ∃ b o, a = some ⟨b, o, none⟩ ∧ ∀ i, i < n → ∃ a0 c0 a1 c1 a2 c2, ThC w b (o + i * 5) (ts i) a0 c0 a1 c1 a2 c2 ∧ ThL w a0 a1 a2 (ts i) ∧ (ts i).n0 ≤ c0 ∧ (ts i).n1 ≤ c1 ∧ (ts i).n2 ≤ c2)
theorem ThsAt.below {w w' : World} {a : Option Addr} {n : Nat} {ts : Nat → ThD} (h : ThsAt w a n ts) {B : Nat} (hb : Below B w w') (hB : w.heap.size ≤ B) : ThsAt w' a n ts := by
 obtain ⟨h1, h2 | ⟨b, o, h3, h4⟩⟩ := h
 · exact ⟨h1, .inl h2⟩
 · refine ⟨h1, .inr ⟨b, o, h3, fun i hi => ?_⟩⟩
   obtain ⟨a0, c0, a1, c1, a2, c2, h5, h6, h7⟩ := h4 i hi
   exact ⟨a0, c0, a1, c1, a2, c2, h5.below hb hB, h6.below hb hB, h7⟩
def CaC (w : World) (b p : Nat) (c : CaD) (v : Value) : Prop :=
 w.cell? ⟨b, p, none⟩ = some (I c.t) ∧ w.cell? ⟨b, p + 1, none⟩ = some (I c.kd) ∧ w.cell? ⟨b, p + 2, none⟩ = some (I c.k) ∧ w.cell? ⟨b, p + 3, none⟩ = some (I c.v) ∧ w.cell? ⟨b, p + 4, none⟩ = some (I c.st) ∧ w.cell? ⟨b, p + 5, none⟩ = some (I c.ln) ∧ w.cell? ⟨b, p + 6, none⟩ = some (I c.en) ∧ w.cell? ⟨b, p + 7, none⟩ = some (I c.cd) ∧ w.cell? ⟨b, p + 8, none⟩ = some v
theorem CaC.below {w w' : World} {b p : Nat} {c : CaD} {v : Value} (h : CaC w b p c v) {B : Nat} (hb : Below B w w') (hB : w.heap.size ≤ B) : CaC w' b p c v := by
 have hlt : b < B := Nat.lt_of_lt_of_le (World.block_lt_of_cell? w _ h.1) hB
 obtain ⟨h0, h1, h2, h3, h4, h5, h6, h7, h8⟩ := h
 exact ⟨(hb.cell hlt).trans h0, (hb.cell hlt).trans h1, (hb.cell hlt).trans h2, (hb.cell hlt).trans h3, (hb.cell hlt).trans h4, (hb.cell hlt).trans h5, (hb.cell hlt).trans h6, (hb.cell hlt).trans h7, (hb.cell hlt).trans h8⟩
abbrev CaV (c : CaD) (v : Value) : Value := .agg #[.int .i64 c.t, .int .i64 c.kd, .int .i64 c.k, .int .i64 c.v, .int .i64 c.st, .int .i64 c.ln, .int .i64 c.en, .int .i64 c.cd, v]
abbrev CaA (c : CaD) (v : Value) : Array Value := #[.int .i64 c.t, .int .i64 c.kd, .int .i64 c.k, .int .i64 c.v, .int .i64 c.st, .int .i64 c.ln, .int .i64 c.en, .int .i64 c.cd, v]
def CasAt (w : World) (a : Option Addr) (n : Nat) (f : Nat → CaD) : Prop :=
 n ≤ 2097152 ∧ (n = 0 ∨ ∃ b o, a = some ⟨b, o, none⟩ ∧ ∀ i, i < n → ∃ ra rn rc, CaC w b (o + i * 9) (f i) (.slice ra rn rc))
theorem CasAt.below {w w' : World} {a : Option Addr} {n : Nat} {f : Nat → CaD} (h : CasAt w a n f) {B : Nat} (hb : Below B w w') (hB : w.heap.size ≤ B) : CasAt w' a n f := by
 obtain ⟨h1, h2 | ⟨b, o, h3, h4⟩⟩ := h
 · exact ⟨h1, .inl h2⟩
 · refine ⟨h1, .inr ⟨b, o, h3, fun i hi => ?_⟩⟩
   obtain ⟨ra, rn, rc, h5⟩ := h4 i hi
   exact ⟨ra, rn, rc, h5.below hb hB⟩
def OpAt (fs : List Int) (i : Nat) : Prop := OpGood (fs.getD (i * 3) 0) (fs.getD (i * 3 + 1) 0) (fs.getD (i * 3 + 2) 0)
instance (fs : List Int) (i : Nat) : Decidable (OpAt fs i) := by unfold OpAt; infer_instance
def GotAt (gs : List Int) (i : Nat) : Bool := inB (gs.getD (i * 2) 0) 0 19 && inB (gs.getD (i * 2 + 1) 0) 0 1000
def HelpAt (hs : List Int) (n : Nat) (i : Nat) : Bool := inB (hs.getD (i * 4) 0) 0 ((n : Int) - 1) && (inB (hs.getD (i * 4 + 1) 0) 1 1000000 && (inB (hs.getD (i * 4 + 2) 0) 0 20 && inB (hs.getD (i * 4 + 3) 0) 0 20))
structure ThGood (t : ThD) (n : Nat) : Prop where
 few : t.n0 ≤ 8
 pc : 0 ≤ t.pc ∧ t.pc ≤ t.n0
 on : t.on = true → t.pc < t.n0
 off : t.on = false → t.n1 = 0 ∧ t.n2 = 0
 got : t.n1 ≤ 12
 stk : t.n2 ≤ 2
 ops : ∀ i, i < t.n0 → OpAt t.fs i
 gots : ∀ i, i < t.n1 → GotAt t.gs i = true
 stks : ∀ i, i < t.n2 → HelpAt t.hs n i = true
def MomGood (x st tm : Int) : Bool := x == -1 || inB x st tm
def CaGood (n : Nat) (tm : Int) (c : CaD) : Bool := inB c.t 0 ((n : Int) - 1) && (decide (OpGood c.kd c.k c.v) && (inB c.st 0 tm && (MomGood c.ln c.st tm && MomGood c.en c.st tm)))
def soN (f : Nat → CaD) : Nat → Nat
 | 0 => 0
 | n + 1 => soN f n + if 0 ≤ (f n).ln then 1 else 0
theorem soN_le (f : Nat → CaD) : ∀ n, soN f n ≤ n
 | 0 => Nat.le_refl _
 | n + 1 => by have := soN_le f n; unfold soN; split <;> omega
def linAt (f : Nat → CaD) (os : List Int) (i : Nat) : Int := (f (os.getD i 0).toNat).ln
def OrdAt (f : Nat → CaD) (nc : Nat) (os : List Int) (i : Nat) : Prop :=
 inB (os.getD i 0) 0 ((nc : Int) - 1) = true ∧ 0 ≤ linAt f os i ∧ (0 < i → linAt f os (i - 1) ≤ linAt f os i) ∧ ∀ j, j < i → os.getD j 0 ≠ os.getD i 0
structure CallsGood (f : Nat → CaD) (nc : Nat) (os : List Int) (no nt : Nat) (tm : Int) : Prop where
 each : ∀ i, i < nc → CaGood nt tm (f i) = true
 ord : ∀ i, i < no → OrdAt f nc os i
 few : nc ≤ 40
 all : soN f nc = no
def callsL (f : Nat → CaD) (t : Int) : Nat → List CaD
 | 0 => []
 | n + 1 => callsL f t n ++ if (f n).t = t then [f n] else []
def TaskGood (x : ThD) (L : List CaD) : Prop :=
 if x.on = true then ∃ L' c, L = L' ++ [c] ∧ (c.kd = x.fs.getD (x.pc.toNat * 3) 0 ∧ c.k = x.fs.getD (x.pc.toNat * 3 + 1) 0 ∧ c.v = x.fs.getD (x.pc.toNat * 3 + 2) 0) ∧ c.en = -1 ∧ (L'.length : Int) = x.pc ∧ ∀ d ∈ L', 0 ≤ d.en
 else (L.length : Int) = x.pc ∧ ∀ d ∈ L, 0 ≤ d.en
def lastN (f : Nat → CaD) (t : Int) : Nat → Int
 | 0 => -1
 | n + 1 => if (f n).t = t then (n : Int) else lastN f t n
theorem lastN_lt (f : Nat → CaD) (t : Int) : ∀ n, -1 ≤ lastN f t n ∧ lastN f t n < (n : Int)
 | 0 => by unfold lastN; omega
 | n + 1 => by have := lastN_lt f t n; unfold lastN; split <;> omega
def endN (f : Nat → CaD) (t : Int) : Nat → Nat
 | 0 => 0
 | n + 1 => endN f t n + if (f n).t = t ∧ 0 ≤ (f n).en then 1 else 0
theorem endN_le (f : Nat → CaD) (t : Int) : ∀ n, endN f t n ≤ n
 | 0 => Nat.le_refl _
 | n + 1 => by have := endN_le f t n; unfold endN; split <;> omega
structure TaskSpec (f : Nat → CaD) (nc : Nat) (t : Int) (x : ThD) : Prop where
 ends : ∀ i, i < nc → (f i).t = t → 0 ≤ (f i).en ∨ (x.on = true ∧ (i : Int) = lastN f t nc)
 pc : (endN f t nc : Int) = x.pc
 last : x.on = true → 0 ≤ lastN f t nc ∧ (f (lastN f t nc).toNat).en = -1 ∧ ((f (lastN f t nc).toNat).kd = x.fs.getD (x.pc.toNat * 3) 0 ∧ (f (lastN f t nc).toNat).k = x.fs.getD (x.pc.toNat * 3 + 1) 0 ∧ (f (lastN f t nc).toNat).v = x.fs.getD (x.pc.toNat * 3 + 2) 0)
theorem callsL_mem {f : Nat → CaD} {t : Int} : ∀ {n : Nat} {d : CaD}, d ∈ callsL f t n ↔ ∃ i, i < n ∧ (f i).t = t ∧ f i = d
 | 0, d => by simp [callsL]
 | n + 1, d => by
   unfold callsL
   rw [List.mem_append, callsL_mem]
   constructor
   · rintro (⟨i, hi, h1, h2⟩ | h)
     · exact ⟨i, by omega, h1, h2⟩
     · split at h
       · rename_i ht
         exact ⟨n, by omega, ht, (List.mem_singleton.1 h).symm⟩
       · simp at h
   · rintro ⟨i, hi, h1, h2⟩
     by_cases hin : i < n
     · exact .inl ⟨i, hin, h1, h2⟩
     · obtain rfl : i = n := by omega
       exact .inr (by rw [if_pos h1, h2]; exact List.mem_singleton.2 rfl)
theorem callsL_last {f : Nat → CaD} {t : Int} : ∀ {n : Nat}, (lastN f t n = -1 ∧ callsL f t n = []) ∨ (0 ≤ lastN f t n ∧ (f (lastN f t n).toNat).t = t ∧ callsL f t n = callsL f t (lastN f t n).toNat ++ [f (lastN f t n).toNat])
 | 0 => .inl ⟨rfl, rfl⟩
 | n + 1 => by
   by_cases h : (f n).t = t
   · have e : lastN f t (n + 1) = (n : Int) := by simp [lastN, h]
     have e2 : callsL f t (n + 1) = callsL f t n ++ [f n] := by simp [callsL, h]
     rw [e, e2]
     exact .inr ⟨by omega, by simpa using h, by simp⟩
   · have e : lastN f t (n + 1) = lastN f t n := by simp [lastN, h]
     have e2 : callsL f t (n + 1) = callsL f t n := by simp [callsL, h]
     rw [e, e2]
     exact callsL_last
theorem endN_len {f : Nat → CaD} {t : Int} : ∀ {n : Nat}, (∀ i, i < n → (f i).t = t → 0 ≤ (f i).en) → endN f t n = (callsL f t n).length
 | 0, _ => rfl
 | n + 1, h => by
   unfold endN callsL
   rw [List.length_append, endN_len fun i hi => h i (by omega)]
   by_cases ht : (f n).t = t
   · simp [ht, h n (by omega) ht]
   · simp [ht]
theorem endN_top {f : Nat → CaD} {t : Int} {m : Nat} : ∀ {n : Nat}, m ≤ n → (∀ i, m ≤ i → i < n → (f i).t ≠ t ∨ (f i).en < 0) → endN f t n = endN f t m
 | 0, h, _ => by
   have e : m = 0 := by omega
   rw [e]
 | n + 1, h, g => by
   by_cases hm : m = n + 1
   · rw [hm]
   · have h1 := g n (by omega) (by omega)
     have e : endN f t (n + 1) = endN f t n := by
       rw [endN, if_neg (by omega)]
       omega
     rw [e, endN_top (by omega) fun i hi hn => g i hi (by omega)]
theorem lastN_top {f : Nat → CaD} {t : Int} : ∀ {n i : Nat}, i < n → (f i).t = t → (i : Int) ≤ lastN f t n
 | 0, i, h, _ => by omega
 | n + 1, i, h, ht => by
   unfold lastN
   split
   · omega
   · rename_i hn
     have : i ≠ n := fun e => hn (by rw [← e]; exact ht)
     exact lastN_top (by omega) ht
theorem task_iff {f : Nat → CaD} {nc : Nat} {t : Int} {x : ThD} : TaskSpec f nc t x ↔ TaskGood x (callsL f t nc) := by
 have hlast := lastN_lt f t nc
 rcases hon : x.on with _ | _
 · unfold TaskGood
   rw [hon, if_neg (by simp)]
   constructor
   · rintro ⟨h1, h2, -⟩
     have hall : ∀ i, i < nc → (f i).t = t → 0 ≤ (f i).en := fun i hi ht => by
       rcases h1 i hi ht with h | ⟨h, -⟩
       · exact h
       · rw [hon] at h; cases h
     refine ⟨by rw [← endN_len hall]; exact h2, fun d hd => ?_⟩
     obtain ⟨i, hi, ht, rfl⟩ := callsL_mem.1 hd
     exact hall i hi ht
   · rintro ⟨h1, h2⟩
     have hall : ∀ i, i < nc → (f i).t = t → 0 ≤ (f i).en := fun i hi ht => h2 _ (callsL_mem.2 ⟨i, hi, ht, rfl⟩)
     exact ⟨fun i hi ht => .inl (hall i hi ht), by rw [endN_len hall]; exact h1, fun h => by rw [hon] at h; cases h⟩
 · unfold TaskGood
   rw [hon, if_pos rfl]
   constructor
   · rintro ⟨h1, h2, h3⟩
     obtain ⟨h4, h5, h6⟩ := h3 hon
     rcases callsL_last (f := f) (t := t) (n := nc) with ⟨h, -⟩ | ⟨-, h7, h8⟩
     · omega
     have hall : ∀ i, i < (lastN f t nc).toNat → (f i).t = t → 0 ≤ (f i).en := fun i hi ht => by
       rcases h1 i (by omega) ht with h | ⟨-, h⟩
       · exact h
       · omega
     refine ⟨_, _, h8, h6, h5, ?_, fun d hd => ?_⟩
     · rw [← endN_len hall, ← h2]
       have := endN_top (f := f) (t := t) (m := (lastN f t nc).toNat) (n := nc) (by omega) fun i hi hn => by
         by_cases ht : (f i).t = t
         · have := lastN_top hn ht
           obtain rfl : i = (lastN f t nc).toNat := by omega
           exact .inr (by omega)
         · exact .inl ht
       omega
     · obtain ⟨i, hi, ht, rfl⟩ := callsL_mem.1 hd
       exact hall i hi ht
   · rintro ⟨L', c, hL, hop, hen, hlen, hall⟩
     rcases callsL_last (f := f) (t := t) (n := nc) with ⟨-, h⟩ | ⟨h6, h7, h8⟩
     · rw [h] at hL; simp at hL
     rw [h8] at hL
     obtain ⟨e1, e2⟩ := List.append_inj' hL rfl
     have e2 : f (lastN f t nc).toNat = c := by simpa using e2
     have hall' : ∀ i, i < (lastN f t nc).toNat → (f i).t = t → 0 ≤ (f i).en := fun i hi ht => hall _ (by rw [← e1]; exact callsL_mem.2 ⟨i, hi, ht, rfl⟩)
     refine ⟨fun i hi ht => ?_, ?_, fun _ => ⟨h6, by rw [e2]; exact hen, by rw [e2]; exact hop⟩⟩
     · have := lastN_top hi ht
       by_cases h : i < (lastN f t nc).toNat
       · exact .inl (hall' i h ht)
       · exact .inr ⟨hon, by omega⟩
     · rw [← hlen, ← e1, ← endN_len hall']
       have := endN_top (f := f) (t := t) (m := (lastN f t nc).toNat) (n := nc) (by omega) fun i hi hn => by
         by_cases ht : (f i).t = t
         · have := lastN_top hn ht
           obtain rfl : i = (lastN f t nc).toNat := by omega
           exact .inr (by rw [e2]; omega)
         · exact .inl ht
       omega
end
def idxF (es : List Int) (at_ : Int) : Nat → Nat → Nat
 | 0, k => k
 | f + 1, k => if es.getD (k * 3) 0 = at_ then k else idxF es at_ f (k + 1)
theorem idxF_eq {es : List Int} {at_ : Int} : ∀ {f k K : Nat}, k ≤ K → K ≤ k + f → (∀ i, k ≤ i → i < K → es.getD (i * 3) 0 ≠ at_) → (K < k + f → es.getD (K * 3) 0 = at_) → idxF es at_ f k = K
 | 0, k, K, h1, h2, _, _ => by unfold idxF; omega
 | f + 1, k, K, h1, h2, h3, h4 => by
   unfold idxF
   by_cases e : k = K
   · subst e
     rw [if_pos (h4 (by omega))]
   · rw [if_neg (h3 k (Nat.le_refl _) (by omega))]
     exact idxF_eq (by omega) (by omega) (fun i hi => h3 i (by omega)) (fun h => h4 (by omega))
def idxE (es : List Int) (n : Nat) (at_ : Int) : Nat := idxF es at_ n 0
theorem idxE_eq {es : List Int} {at_ : Int} {n k : Nat} (h1 : k ≤ n) (h2 : ∀ i, i < k → es.getD (i * 3) 0 ≠ at_) (h3 : k < n → es.getD (k * 3) 0 = at_) : idxE es n at_ = k :=
 idxF_eq (Nat.zero_le _) (by omega) (fun i _ hi => h2 i hi) (fun h => h3 (by omega))
def entM (es : List Int) (n : Nat) (at_ : Int) : Int × Int × Int × Bool :=
 if idxE es n at_ < n then (es.getD (idxE es n at_ * 3) 0, es.getD (idxE es n at_ * 3 + 1) 0, es.getD (idxE es n at_ * 3 + 2) 0, true) else (0, 0, 0, false)
theorem entM_yes {es : List Int} {at_ : Int} {n k : Nat} (h : idxE es n at_ = k) (hk : k < n) : entM es n at_ = (es.getD (k * 3) 0, es.getD (k * 3 + 1) 0, es.getD (k * 3 + 2) 0, true) := by
 unfold entM; rw [h, if_pos hk]
theorem entM_no {es : List Int} {at_ : Int} {n : Nat} (h : idxE es n at_ = n) : entM es n at_ = (0, 0, 0, false) := by
 unfold entM; rw [h, if_neg (by omega)]
def entOk (es : List Int) (i : Nat) : Prop :=
 (0 ≤ es.getD (i * 3) 0 ∧ es.getD (i * 3) 0 ≤ 19) ∧ (0 ≤ es.getD (i * 3 + 1) 0 ∧ es.getD (i * 3 + 1) 0 ≤ 1000) ∧ (0 ≤ es.getD (i * 3 + 2) 0 ∧ es.getD (i * 3 + 2) 0 ≤ 1000) ∧ (0 < i → es.getD ((i - 1) * 3) 0 < es.getD (i * 3) 0)
instance (es : List Int) (i : Nat) : Decidable (entOk es i) := by unfold entOk; infer_instance
def leastE (es : List Int) (k : Nat) : Int := if k = 0 then 0 else es.getD ((k - 1) * 3) 0 + 1
theorem leastE_ok {es : List Int} {k : Nat} (h : ∀ i, i < k → entOk es i) : 0 ≤ leastE es k ∧ leastE es k ≤ 20 := by
 unfold leastE
 split
 · omega
 · have := h (k - 1) (by omega)
   unfold entOk at this
   omega
theorem entOk_iff {es : List Int} {k : Nat} (h : ∀ i, i < k → entOk es i) : entOk es k ↔ (inB (es.getD (k * 3) 0) (leastE es k) 19 = true ∧ inB (es.getD (k * 3 + 1) 0) 0 1000 = true ∧ inB (es.getD (k * 3 + 2) 0) 0 1000 = true) := by
 have h0 := leastE_ok h
 unfold inB entOk
 simp only [decide_eq_true_eq]
 have e : leastE es k ≤ es.getD (k * 3) 0 ↔ (0 ≤ es.getD (k * 3) 0 ∧ (0 < k → es.getD ((k - 1) * 3) 0 < es.getD (k * 3) 0)) := by
   constructor
   · intro h1
     refine ⟨by omega, fun hk => ?_⟩
     unfold leastE at h1
     rw [if_neg (by omega)] at h1
     omega
   · rintro ⟨h1, h2⟩
     unfold leastE
     split
     · exact h1
     · have := h2 (by omega); omega
 rw [e]
 constructor
 · rintro ⟨⟨a, b⟩, c, d, f⟩; exact ⟨⟨⟨a, f⟩, b⟩, c, d⟩
 · rintro ⟨⟨⟨a, f⟩, b⟩, c, d⟩; exact ⟨⟨a, b⟩, c, d, f⟩
theorem entOk_low {es : List Int} : ∀ {k : Nat}, (∀ i, i < k → entOk es i) → ∀ i, i < k → (i : Int) ≤ es.getD (i * 3) 0
 | k, h, 0, hi => by have := (h 0 hi).1.1; simpa using this
 | k, h, i + 1, hi => by
   have ih := entOk_low h i (by omega)
   have h2 := (h (i + 1) hi).2.2.2 (by omega)
   rw [Nat.add_sub_cancel] at h2
   omega
theorem entOk_few {es : List Int} {k : Nat} (h : ∀ i, i < k → entOk es i) : k ≤ 20 := by
 by_cases hk : k = 0
 · omega
 · have h1 := entOk_low h (k - 1) (by omega)
   have h2 := (h (k - 1) (by omega)).1.2
   omega
def descOkM (sq st : Int) (en : Nat) (es : List Int) (cd : Int) (rn : Nat) : Bool :=
 if sq = 0 then decide (st = 0 ∧ en = 0 ∧ cd = 0 ∧ rn = 0) else (inB sq 1 1000000 && (inB st 1 3 && decide (∀ i, i < en → entOk es i)))
section
open Go.RowKit
structure DK where
 sq : Int
 st : Int
 en : Nat
 es : List Int
 cd : Int
 rn : Nat
 rs : List Int
instance : Inhabited DK := ⟨⟨0, 0, 0, [], 0, 0, []⟩⟩
def dk (ds : List DK) (i : Nat) : DK := ds.getD i default
def wordM (x t s : Int) (ds : List DK) (at_ : Int) : Int :=
 if t = 0 then x else if inB t 1 ds.length = true then
   (if (dk ds (t - 1).toNat).sq = s ∧ (dk ds (t - 1).toNat).st = 2 then (entM (dk ds (t - 1).toNat).es (dk ds (t - 1).toNat).en at_).2.2.1 else (entM (dk ds (t - 1).toNat).es (dk ds (t - 1).toNat).en at_).2.1) else 0
def valM (fs : List Int) (m : Nat) (ds : List DK) (at_ : Int) : Int :=
 if 0 ≤ at_ ∧ at_ < (m : Int) then wordM (fs.getD (at_.toNat * 3) 0) (fs.getD (at_.toNat * 3 + 1) 0) (fs.getD (at_.toNat * 3 + 2) 0) ds at_ else 0
def Five (w : World) (b p : Nat) (d : DK) (ea : Option Addr) (ec : Nat) (ra : Option Addr) (rc : Nat) : Prop :=
 w.cell? ⟨b, p, none⟩ = some (I d.sq) ∧ w.cell? ⟨b, p + 1, none⟩ = some (I d.st) ∧ w.cell? ⟨b, p + 2, none⟩ = some (.slice ea d.en ec) ∧ w.cell? ⟨b, p + 3, none⟩ = some (I d.cd) ∧ w.cell? ⟨b, p + 4, none⟩ = some (.slice ra d.rn rc)
theorem Five.below {w w' : World} {b p : Nat} {d : DK} {ea : Option Addr} {ec : Nat} {ra : Option Addr} {rc : Nat} (h : Five w b p d ea ec ra rc) {B : Nat} (hb : Below B w w') (hB : w.heap.size ≤ B) : Five w' b p d ea ec ra rc := by
 have hlt : b < B := Nat.lt_of_lt_of_le (World.block_lt_of_cell? w _ h.1) hB
 obtain ⟨h0, h1, h2, h3, h4⟩ := h
 exact ⟨(hb.cell hlt).trans h0, (hb.cell hlt).trans h1, (hb.cell hlt).trans h2, (hb.cell hlt).trans h3, (hb.cell hlt).trans h4⟩
def DescAt (w : World) (a : Option Addr) (n : Nat) (ds : List DK) : Prop :=
 ds.length = n ∧ n ≤ 1048576 ∧ (n = 0 ∨ ∃ b o, a = some ⟨b, o, none⟩ ∧ ∀ i, i < n → ∃ ea ec ra rc, Five w b (o + i * 5) (dk ds i) ea ec ra rc ∧ TripAt w ea (dk ds i).en (dk ds i).es ∧ IntAt w ra (dk ds i).rn (dk ds i).rs)
theorem DescAt.below {w w' : World} {a : Option Addr} {n : Nat} {ds : List DK} (h : DescAt w a n ds) {B : Nat} (hb : Below B w w') (hB : w.heap.size ≤ B) : DescAt w' a n ds := by
 obtain ⟨h1, h2, h3 | ⟨b, o, h3, h4⟩⟩ := h
 · exact ⟨h1, h2, .inl h3⟩
 · refine ⟨h1, h2, .inr ⟨b, o, h3, fun i hi => ?_⟩⟩
   obtain ⟨ea, ec, ra, rc, h5, h6, h7⟩ := h4 i hi
   exact ⟨ea, ec, ra, rc, h5.below hb hB, h6.below hb hB, h7.below hb hB⟩
end
section
open Go.ChangeShapes Go.WideShapes Go.ChangeAt Go.RowKit
abbrev WordV (x y z : Int) : Value := .agg #[.int .i64 x, .int .i64 y, .int .i64 z]
theorem infoWord : (Tryz.prog.info? 75).map (fun i => (i.zero, i.size, i.bytes)) = some (some (.agg #[.int .i64 0, .int .i64 0, .int .i64 0]), 3, 24) := by kernel_rfl
abbrev EntryV (x y z : Int) : Value := .agg #[.int .i64 x, .int .i64 y, .int .i64 z]

end
abbrev ResV (code : Int) (a : Option Addr) (n c : Nat) : Value := .agg #[.int .i64 code, .slice a n c]
section
open Go.ChangeShapes Go.WideShapes Go.ChangeAt Go.RowKit
theorem eqIntS_any (a1 a2 : Option Addr) (n1 n2 c1 c2 : Nat) (xs ys : List Int) (w : World) (h1 : IntAt w a1 n1 xs) (h2 : IntAt w a2 n2 ys) :
   Calls Tryz.prog 32 #[.slice a1 n1 c1, .slice a2 n2 c2] w fun e w' => e = .returned (.bool (decide (xs = ys))) ∧ ∃ m, w' = w.drewN m := by
 obtain ⟨l1, b1, h1⟩ := h1
 obtain ⟨l2, b2, h2⟩ := h2
 have H1 : Hid (n1 = 0 ∨ ∃ b o, a1 = some ⟨b, o, none⟩ ∧ ∀ i, i < n1 → w.cell? ⟨b, o + i, none⟩ = some (I (xs.getD i 0))) := h1
 have H2 : Hid (n2 = 0 ∨ ∃ b o, a2 = some ⟨b, o, none⟩ ∧ ∀ i, i < n2 → w.cell? ⟨b, o + i, none⟩ = some (I (ys.getD i 0))) := h2
 have L1 : Hid (xs.length = n1) := l1
 have L2 : Hid (ys.length = n2) := l2
 clear h1 h2 l1 l2
 by_cases hn : n1 = n2
 · subst hn
   go_enter Tryz.func32, Tryz.ntmps32
   go_wp2
   go_loopw [5] (fun i wr => ∃ k m : Nat, k ≤ n1 ∧ i = .int .i64 k ∧ xs.take k = ys.take k ∧ wr = w.drewN m) (fun i _ => n1 - (intOf i).toNat)
   case atStart => exact ⟨0, 0, Nat.zero_le _, rfl, rfl, rfl⟩
   case round =>
     obtain ⟨k, m, hk, rfl, ht, rfl⟩ := hrel
     have HT : Hid (xs.take k = ys.take k) := ht
     clear ht
     by_cases hlt : k < n1
     · rcases H1.out with h | ⟨p1, o1, rfl, g1⟩
       · omega
       rcases H2.out with h | ⟨p2, o2, rfl, g2⟩
       · omega
       obtain ⟨x, hx⟩ : ∃ x, xs.getD k 0 = x := ⟨_, rfl⟩
       obtain ⟨y, hy⟩ : ∃ y, ys.getD k 0 = y := ⟨_, rfl⟩
       have e1 := g1 k hlt
       have e2 := g2 k hlt
       rw [hx] at e1
       rw [hy] at e2
       have HX : Hid (xs.getD k 0 = x) := hx
       have HY : Hid (ys.getD k 0 = y) := hy
       clear g1 g2 hx hy
       go_wp2
       go_region
       go_wp2
       · have hd : (x != y) = true := by assumption
         go_ret
         refine ⟨?_, m + 1, rfl⟩
         have e : xs ≠ ys := fun e => by rw [← HX.out, ← HY.out, e] at hd; simp at hd
         simp [e]
       · have hd : (x != y) = false := by assumption
         have l1 := L1.out
         have l2 := L2.out
         exact ⟨⟨k + 1, m + 1, by omega, by go_num, take_nextI (by omega) (by omega) HT.out (by rw [HX.out, HY.out]; simpa using hd), rfl⟩, by simp [intOf]; omega⟩
     · go_wp2
       go_ret
       refine ⟨?_, m, rfl⟩
       have e : xs = ys := by
         have := HT.out
         rwa [List.take_of_length_le (by have := L1.out; omega), List.take_of_length_le (by have := L2.out; omega)] at this
       simp [e]
 · have hz : ((n1 : Int) != (n2 : Int)) = true := by simp; omega
   go_enter Tryz.func32, Tryz.ntmps32
   go_wp2
   go_ret
   refine ⟨?_, 0, rfl⟩
   have e : xs ≠ ys := fun e => hn (by rw [← L1.out, ← L2.out, e])
   simp [e]
def upto (xs : List Int) (k n : Nat) : List Int := xs.take k ++ List.replicate (n - k) 0
theorem upto_step {xs : List Int} {k n : Nat} (hx : xs.length = n) (h : k < n) : (((upto xs k n).map I).set k (I (xs.getD k 0))) = (upto xs (k + 1) n).map I := by
 rw [← List.map_set]
 congr 1
 unfold upto
 have hl : (xs.take k).length = k := by rw [List.length_take]; omega
 rw [List.set_append_right _ _ (by omega), hl, Nat.sub_self, show n - k = (n - (k + 1)) + 1 by omega, List.replicate_succ, List.set_cons_zero,
   List.take_succ_eq_append_getElem (show k < xs.length by omega), List.append_assoc]
 simp [List.getD, show k < xs.length by omega]
theorem upto_end {xs : List Int} {n : Nat} (hx : xs.length = n) : upto xs n n = xs := by
 unfold upto
 rw [List.take_of_length_le (by omega)]; simp
theorem toIntS_any (a : Option Addr) (n c : Nat) (xs : List Int) (w : World) (h : IntAt w a n xs) :
   Calls Tryz.prog 23 #[.slice a n c] w fun e w' => e = .returned (.slice (some ⟨w.heap.size, 0, none⟩) n n) ∧ w'.ownsRow w.heap.size 3 1 (.slice (some ⟨w.heap.size, 0, none⟩) n n) n (xs.map I) ∧ Below w.heap.size w w' := by
 have HA := h
 have HH : Hid (IntAt w a n xs) := HA
 obtain ⟨l1, b1, _⟩ := h
 have L1 : Hid (xs.length = n) := l1
 clear l1 HA
 obtain ⟨i0, hi, hz0, hz1, hz2⟩ := info_parts infoInt
 go_enter Tryz.func23, Tryz.ntmps23
 go_wp2_with (at_make; refine wpList_make_full _ rfl _ _ 22 rfl w.heap.size 3 i0 (.int .i64 0) 1 Tryz.underlying22 hi hz0 hz1 .i64 .i64 _ _ n rfl rfl rfl rfl (by rw [hz2]; omega) (by unfold maxLen; omega) (Nat.le_refl _) ?_; intro w1 own1 grow1)
 have own0 : w1.ownsRow w.heap.size 3 1 (.slice (some ⟨w.heap.size, 0, none⟩) n n) n ((upto xs 0 n).map I) := by
   have e : (madeCells (Value.int .i64 0).cells (n * 1)).toList = (upto xs 0 n).map I := by
     rw [Nat.mul_one]
     exact (toList_madeCells_one _ _).trans (by simp [upto])
   rwa [e] at own1
 have hb1 : Below w.heap.size w w1 := (Below.refl _ _).grown grow1 (Nat.le_refl _) (fun k e => by cases e)
 clear own1 grow1
 go_loopw [4] (fun i wr => ∃ k : Nat, k ≤ n ∧ i = .int .i64 (k : Int) ∧ wr.ownsRow w.heap.size 3 1 (.slice (some ⟨w.heap.size, 0, none⟩) n n) n ((upto xs k n).map I) ∧ Below w.heap.size w wr) (fun i _ => n - (intOf i).toNat)
 case atStart => exact ⟨0, Nat.zero_le _, rfl, own0, hb1⟩
 case round =>
   obtain ⟨k, hk, rfl, ho, hb⟩ := hrel
   clear own0 hb1
   by_cases hlt : k < n
   · rcases (HH.out.below hb (Nat.le_refl _)).2.2 with h0 | ⟨p1, o1, rfl, g1⟩
     · omega
     have e1 := g1 k hlt
     obtain ⟨x, hx⟩ : ∃ x, xs.getD k 0 = x := ⟨_, rfl⟩
     rw [hx] at e1
     have hst := ho.stored k (I x)
     rw [← hx, upto_step L1.out hlt, hx] at hst
     have HS : Hid ((wr.setCell ⟨w.heap.size, k, none⟩ (I x)).ownsRow w.heap.size 3 1 (.slice (some ⟨w.heap.size, 0, none⟩) n n) n ((upto xs (k + 1) n).map I)) := hst.1
     have hf := ho.frozenAt k
     obtain ⟨u, hc⟩ := own_cell ho hlt
     clear g1 hx hst ho
     go_wp2
     go_roundw
     case rel => exact ⟨k + 1, by omega, by go_num, HS.out, hb.setCell (Nat.le_refl _) _⟩
     case measure => simp [intOf]; omega
   · obtain rfl : k = n := by omega
     rw [upto_end L1.out] at ho
     go_wp2
     go_ret
     exact ⟨rfl, ho, hb⟩
end
section
open Go.ChangeShapes Go.WideShapes Go.ChangeAt Go.RowKit Go.Joins

end
section
open Go.ChangeShapes Go.WideShapes Go.ChangeAt Go.RowKit
abbrev DescV (sq st : Int) (ea : Option Addr) (en ec : Nat) (cd : Int) (ra : Option Addr) (rn rc : Nat) : Value := .agg #[.int .i64 sq, .int .i64 st, .slice ea en ec, .int .i64 cd, .slice ra rn rc]
abbrev DescC (sq st : Int) (ea : Option Addr) (en ec : Nat) (cd : Int) (ra : Option Addr) (rn rc : Nat) : Array Value := #[.int .i64 sq, .int .i64 st, .slice ea en ec, .int .i64 cd, .slice ra rn rc]
theorem Box.desc {w : World} {b : Nat} {T : TypeId} {sq st cd : Int} {ea ra : Option Addr} {en ec rn rc : Nat} (h : Box w b (DescC sq st ea en ec cd ra rn rc) T) :
   w.cell? ⟨b, 0, none⟩ = some (.int .i64 sq) ∧ w.cell? ⟨b, 1, none⟩ = some (.int .i64 st) ∧ w.cell? ⟨b, 2, none⟩ = some (.slice ea en ec) ∧ w.cell? ⟨b, 3, none⟩ = some (.int .i64 cd) ∧ w.cell? ⟨b, 4, none⟩ = some (.slice ra rn rc) ∧
   w.frozen? ⟨b, 0, none⟩ = false ∧ w.frozen? ⟨b, 1, none⟩ = false ∧ w.frozen? ⟨b, 2, none⟩ = false ∧ w.frozen? ⟨b, 3, none⟩ = false ∧ w.frozen? ⟨b, 4, none⟩ = false :=
 ⟨h.cell 0, h.cell 1, h.cell 2, h.cell 3, h.cell 4, h.frozen 0, h.frozen 1, h.frozen 2, h.frozen 3, h.frozen 4⟩
theorem Box.three {w : World} {b : Nat} {T : TypeId} {x y z : Value} (h : Box w b #[x, y, z] T) :
   w.cell? ⟨b, 0, none⟩ = some x ∧ w.cell? ⟨b, 1, none⟩ = some y ∧ w.cell? ⟨b, 2, none⟩ = some z ∧ w.frozen? ⟨b, 0, none⟩ = false ∧ w.frozen? ⟨b, 1, none⟩ = false ∧ w.frozen? ⟨b, 2, none⟩ = false :=
 ⟨h.cell 0, h.cell 1, h.cell 2, h.frozen 0, h.frozen 1, h.frozen 2⟩
theorem specEntries_any (sq st : Int) (ea : Option Addr) (en ec : Nat) (es : List Int) (cd : Int) (ra : Option Addr) (rn rc : Nat) (at_ : Int) (w : World) (h1 : TripAt w ea en es) :
   Calls Tryz.prog 84 #[DescV sq st ea en ec cd ra rn rc, .int .i64 at_] w fun e w' => e = .returned (.tuple #[EntryV (entM es en at_).1 (entM es en at_).2.1 (entM es en at_).2.2.1, .bool (entM es en at_).2.2.2]) ∧ Below w.heap.size w w' := by
 have H1 : Hid (TripAt w ea en es) := h1
 have hn := h1.2.1
 obtain ⟨r, hr⟩ : ∃ r, entM es en at_ = r := ⟨_, rfl⟩
 rw [hr]
 have HR : Hid (entM es en at_ = r) := hr
 have HB0 : Hid (Below w.heap.size w ((w.alloc (.cells (DescC sq st ea en ec cd ra rn rc) 104)).alloc (.cells #[.int .i64 0, .int .i64 0, .int .i64 0] 107))) := ((Below.refl _ w).alloc (Nat.le_refl _) _).alloc (by simp) _
 have B1 : Hid (Box ((w.alloc (.cells (DescC sq st ea en ec cd ra rn rc) 104)).alloc (.cells #[.int .i64 0, .int .i64 0, .int .i64 0] 107)) (w.heap.size + 1) #[.int .i64 0, .int .i64 0, .int .i64 0] 107) := by
   have := box_of (w.alloc (.cells (DescC sq st ea en ec cd ra rn rc) 104)) #[.int .i64 0, .int .i64 0, .int .i64 0] 107
   simp at this
   exact this
 clear h1 hr
 go_enter Tryz.func84, Tryz.ntmps84
 go_wp2
 go_loopw [6] (fun i wr => ∃ k : Nat, k ≤ en ∧ i = .int .i64 (k : Int) ∧ (∀ i, i < k → es.getD (i * 3) 0 ≠ at_) ∧ Box wr w.heap.size (DescC sq st ea en ec cd ra rn rc) 104 ∧ Box wr (w.heap.size + 1) #[.int .i64 0, .int .i64 0, .int .i64 0] 107 ∧ Below w.heap.size w wr) (fun i _ => en - (intOf i).toNat)
 case atStart => exact ⟨0, Nat.zero_le _, rfl, fun i hi => by omega, (box_of w _ _).alloc _, B1.out, HB0.out⟩
 case round =>
   obtain ⟨k, hk, rfl, hno, hbox, hbox2, hb⟩ := hrel
   have HNO : Hid (∀ i, i < k → es.getD (i * 3) 0 ≠ at_) := hno
   have HBX : Hid (Box wr w.heap.size (DescC sq st ea en ec cd ra rn rc) 104 ∧ Box wr (w.heap.size + 1) #[.int .i64 0, .int .i64 0, .int .i64 0] 107) := ⟨hbox, hbox2⟩
   obtain ⟨_, _, x2, _, _, _, _, _, _, _⟩ := hbox.desc
   obtain ⟨y0, y1, y2, f0, f1, f2⟩ := hbox2.three
   clear hno hbox hbox2 B1 HB0
   by_cases hlt : k < en
   · rcases (H1.out.below hb (Nat.le_refl _)).2.2 with h0 | ⟨p1, o1, rfl, g1⟩
     · omega
     have hk0 : (0 : Int) ≤ (k : Int) := by omega
     have hk1 : (k : Int) < (en : Int) := by omega
     have e1 := g1 (k * 3) (by omega)
     have e2 := g1 (k * 3 + 1) (by omega)
     have e3 := g1 (k * 3 + 2) (by omega)
     obtain ⟨x, hx⟩ : ∃ x, es.getD (k * 3) 0 = x := ⟨_, rfl⟩
     obtain ⟨y, hy⟩ : ∃ y, es.getD (k * 3 + 1) 0 = y := ⟨_, rfl⟩
     obtain ⟨z, hz⟩ : ∃ z, es.getD (k * 3 + 2) 0 = z := ⟨_, rfl⟩
     have HX : Hid (es.getD (k * 3) 0 = x ∧ es.getD (k * 3 + 1) 0 = y ∧ es.getD (k * 3 + 2) 0 = z) := ⟨hx, hy, hz⟩
     rw [hx] at e1
     rw [hy, ← Nat.add_assoc] at e2
     rw [hz, ← Nat.add_assoc] at e3
     clear g1 hx hy hz
     by_cases hxa : x = at_
     · have hxb : (x == at_) = true := by simpa using hxa
       have HV : Hid (r = (x, y, z, true)) := by
         show _ = _
         obtain ⟨q1, q2, q3⟩ := HX.out
         rw [← HR.out, entM_yes (idxE_eq (Nat.le_of_lt hlt) HNO.out fun _ => q1.trans hxa) hlt, q1, q2, q3]
       clear hxa
       go_wp2
       (try simp only [Exit.inBlock, Exit.then])
       refine bodyPost_ret (v := .tuple #[EntryV x y z, .bool true]) (by simp [results, Tryz.results84, go_sem, y0, y1, y2]; try rfl) rfl ?_
       refine ⟨by rw [HV.out], ((hb.setCell (by simp) _).setCell (by simp) _).setCell (by simp) _⟩
     · have hxb : (x == at_) = false := by simpa using hxa
       have HN : Hid (∀ i, i < k + 1 → es.getD (i * 3) 0 ≠ at_) := fun i hi => by
         by_cases e : i = k
         · rw [e, HX.out.1]; exact hxa
         · exact HNO.out i (by omega)
       clear hxa
       go_wp2
       exact ⟨⟨k + 1, by omega, by go_num, HN.out, HBX.out.1, HBX.out.2, hb⟩, by simp [intOf]; omega⟩
   · obtain rfl : k = en := by omega
     have HV : Hid (r = (0, 0, 0, false)) := by show _ = _; rw [← HR.out, entM_no (idxE_eq (Nat.le_refl _) HNO.out fun h => by omega)]
     go_wp2
     (try simp only [Exit.inBlock, Exit.then])
     refine bodyPost_ret (v := .tuple #[EntryV 0 0 0, .bool false]) (by simp [results, Tryz.results84, go_sem, y0, y1, y2]; try rfl) rfl ?_
     refine ⟨by rw [HV.out], ?_⟩
     first
       | exact ((hb.setCell (by simp) _).setCell (by simp) _).setCell (by simp) _
       | exact hb
end
end Go.Proofs.YtcfimaffeopbbaaGreatDoor
