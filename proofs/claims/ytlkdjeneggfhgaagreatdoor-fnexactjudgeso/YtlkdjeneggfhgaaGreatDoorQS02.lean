/- Texts joined: Mch. -/
import Derived.Test.YtlkdjeneggfhgaaGreatDoorQS01
set_option maxHeartbeats 200000
set_option maxRecDepth 100000
namespace Go.Proofs.YtlkdjeneggfhgaaGreatDoor
section
open Go.ChangeShapes Go.WideShapes Go.ChangeAt Go.RowKit Go.Joins
structure ThD where
 n0 : Nat
 fs : List Int
 pc : Int
 on : Bool
 n1 : Nat
 gs : List Int
 n2 : Nat
 hs : List Int
structure CaD where
 t : Int
 kd : Int
 k : Int
 v : Int
 st : Int
 ln : Int
 en : Int
 cd : Int
structure ThL (w : World) (a0 a1 a2 : Option Addr) (t : ThD) : Prop where
 ops : KAt 3 w a0 t.n0 t.fs
 got : KAt 2 w a1 t.n1 t.gs
 stk : KAt 4 w a2 t.n2 t.hs
theorem ThL.below {w w' : World} {a0 a1 a2 : Option Addr} {t : ThD} (h : ThL w a0 a1 a2 t) {B : Nat} (hb : Below B w w') (hB : w.heap.size ≤ B) : ThL w' a0 a1 a2 t :=
 ⟨h.ops.below hb hB, h.got.below hb hB, h.stk.below hb hB⟩
def ThC (w : World) (b p : Nat) (t : ThD) (a0 : Option Addr) (c0 : Nat) (a1 : Option Addr) (c1 : Nat) (a2 : Option Addr) (c2 : Nat) : Prop :=
 w.cell? ⟨b, p, none⟩ = some (.slice a0 t.n0 c0) ∧ w.cell? ⟨b, p + 1, none⟩ = some (I t.pc) ∧ w.cell? ⟨b, p + 2, none⟩ = some (.bool t.on) ∧ w.cell? ⟨b, p + 3, none⟩ = some (.slice a1 t.n1 c1) ∧ w.cell? ⟨b, p + 4, none⟩ = some (.slice a2 t.n2 c2)
theorem ThC.below {w w' : World} {b p : Nat} {t : ThD} {a0 a1 a2 : Option Addr} {c0 c1 c2 : Nat} (h : ThC w b p t a0 c0 a1 c1 a2 c2) {B : Nat} (hb : Below B w w') (hB : w.heap.size ≤ B) : ThC w' b p t a0 c0 a1 c1 a2 c2 := by
 have hlt : b < B := Nat.lt_of_lt_of_le (World.block_lt_of_cell? w _ h.1) hB
 obtain ⟨h0, h1, h2, h3, h4⟩ := h
 exact ⟨(hb.cell hlt).trans h0, (hb.cell hlt).trans h1, (hb.cell hlt).trans h2, (hb.cell hlt).trans h3, (hb.cell hlt).trans h4⟩
def ThsAt (w : World) (a : Option Addr) (n : Nat) (ts : Nat → ThD) : Prop :=
 n ≤ 2097152 ∧ (n = 0 ∨ ∃ b o, a = some ⟨b, o, none⟩ ∧ ∀ i, i < n → ∃ a0 c0 a1 c1 a2 c2, ThC w b (o + i * 5) (ts i) a0 c0 a1 c1 a2 c2 ∧ ThL w a0 a1 a2 (ts i) ∧ (ts i).n0 ≤ c0 ∧ (ts i).n1 ≤ c1 ∧ (ts i).n2 ≤ c2)
theorem ThsAt.below {w w' : World} {a : Option Addr} {n : Nat} {ts : Nat → ThD} (h : ThsAt w a n ts) {B : Nat} (hb : Below B w w') (hB : w.heap.size ≤ B) : ThsAt w' a n ts := by
 obtain ⟨h1, h2 | ⟨b, o, h3, h4⟩⟩ := h
 · exact ⟨h1, .inl h2⟩
 · refine ⟨h1, .inr ⟨b, o, h3, fun i hi => ?_⟩⟩
   obtain ⟨a0, c0, a1, c1, a2, c2, h5, h6, h7⟩ := h4 i hi
   exact ⟨a0, c0, a1, c1, a2, c2, h5.below hb hB, h6.below hb hB, h7⟩
def CaC (w : World) (b p : Nat) (c : CaD) (v : Value) : Prop :=
 w.cell? ⟨b, p, none⟩ = some (I c.t) ∧ w.cell? ⟨b, p + 1, none⟩ = some (I c.kd) ∧ w.cell? ⟨b, p + 2, none⟩ = some (I c.k) ∧ w.cell? ⟨b, p + 3, none⟩ = some (I c.v) ∧ w.cell? ⟨b, p + 4, none⟩ = some (I c.st) ∧ w.cell? ⟨b, p + 5, none⟩ = some (I c.ln) ∧ w.cell? ⟨b, p + 6, none⟩ = some (I c.en) ∧ w.cell? ⟨b, p + 7, none⟩ = some (I c.cd) ∧ w.cell? ⟨b, p + 8, none⟩ = some v
theorem CaC.below {w w' : World} {b p : Nat} {c : CaD} {v : Value} (h : CaC w b p c v) {B : Nat} (hb : Below B w w') (hB : w.heap.size ≤ B) : CaC w' b p c v := by
 have hlt : b < B := Nat.lt_of_lt_of_le (World.block_lt_of_cell? w _ h.1) hB
 obtain ⟨h0, h1, h2, h3, h4, h5, h6, h7, h8⟩ := h
 exact ⟨(hb.cell hlt).trans h0, (hb.cell hlt).trans h1, (hb.cell hlt).trans h2, (hb.cell hlt).trans h3, (hb.cell hlt).trans h4, (hb.cell hlt).trans h5, (hb.cell hlt).trans h6, (hb.cell hlt).trans h7, (hb.cell hlt).trans h8⟩
abbrev CaV (c : CaD) (v : Value) : Value := .agg #[.int .i64 c.t, .int .i64 c.kd, .int .i64 c.k, .int .i64 c.v, .int .i64 c.st, .int .i64 c.ln, .int .i64 c.en, .int .i64 c.cd, v]
abbrev CaA (c : CaD) (v : Value) : Array Value := #[.int .i64 c.t, .int .i64 c.kd, .int .i64 c.k, .int .i64 c.v, .int .i64 c.st, .int .i64 c.ln, .int .i64 c.en, .int .i64 c.cd, v]
def CasAt (w : World) (a : Option Addr) (n : Nat) (f : Nat → CaD) : Prop :=
 n ≤ 2097152 ∧ (n = 0 ∨ ∃ b o, a = some ⟨b, o, none⟩ ∧ ∀ i, i < n → ∃ ra rn rc, CaC w b (o + i * 9) (f i) (.slice ra rn rc))
theorem CasAt.below {w w' : World} {a : Option Addr} {n : Nat} {f : Nat → CaD} (h : CasAt w a n f) {B : Nat} (hb : Below B w w') (hB : w.heap.size ≤ B) : CasAt w' a n f := by
 obtain ⟨h1, h2 | ⟨b, o, h3, h4⟩⟩ := h
 · exact ⟨h1, .inl h2⟩
 · refine ⟨h1, .inr ⟨b, o, h3, fun i hi => ?_⟩⟩
   obtain ⟨ra, rn, rc, h5⟩ := h4 i hi
   exact ⟨ra, rn, rc, h5.below hb hB⟩
def OpAt (fs : List Int) (i : Nat) : Prop := OpGood (fs.getD (i * 3) 0) (fs.getD (i * 3 + 1) 0) (fs.getD (i * 3 + 2) 0)
instance (fs : List Int) (i : Nat) : Decidable (OpAt fs i) := by unfold OpAt; infer_instance
def GotAt (gs : List Int) (i : Nat) : Bool := inB (gs.getD (i * 2) 0) 0 19 && inB (gs.getD (i * 2 + 1) 0) 0 1000
def HelpAt (hs : List Int) (n : Nat) (i : Nat) : Bool := inB (hs.getD (i * 4) 0) 0 ((n : Int) - 1) && (inB (hs.getD (i * 4 + 1) 0) 1 1000000 && (inB (hs.getD (i * 4 + 2) 0) 0 20 && inB (hs.getD (i * 4 + 3) 0) 0 20))
structure ThGood (t : ThD) (n : Nat) : Prop where
 few : t.n0 ≤ 8
 pc : 0 ≤ t.pc ∧ t.pc ≤ t.n0
 on : t.on = true → t.pc < t.n0
 off : t.on = false → t.n1 = 0 ∧ t.n2 = 0
 got : t.n1 ≤ 12
 stk : t.n2 ≤ 2
 ops : ∀ i, i < t.n0 → OpAt t.fs i
 gots : ∀ i, i < t.n1 → GotAt t.gs i = true
 stks : ∀ i, i < t.n2 → HelpAt t.hs n i = true
def MomGood (x st tm : Int) : Bool := x == -1 || inB x st tm
def CaGood (n : Nat) (tm : Int) (c : CaD) : Bool := inB c.t 0 ((n : Int) - 1) && (decide (OpGood c.kd c.k c.v) && (inB c.st 0 tm && (MomGood c.ln c.st tm && MomGood c.en c.st tm)))
def soN (f : Nat → CaD) : Nat → Nat
 | 0 => 0
 | n + 1 => soN f n + if 0 ≤ (f n).ln then 1 else 0
theorem soN_le (f : Nat → CaD) : ∀ n, soN f n ≤ n
 | 0 => Nat.le_refl _
 | n + 1 => by have := soN_le f n; unfold soN; split <;> omega
def linAt (f : Nat → CaD) (os : List Int) (i : Nat) : Int := (f (os.getD i 0).toNat).ln
def OrdAt (f : Nat → CaD) (nc : Nat) (os : List Int) (i : Nat) : Prop :=
 inB (os.getD i 0) 0 ((nc : Int) - 1) = true ∧ 0 ≤ linAt f os i ∧ (0 < i → linAt f os (i - 1) ≤ linAt f os i) ∧ ∀ j, j < i → os.getD j 0 ≠ os.getD i 0
structure CallsGood (f : Nat → CaD) (nc : Nat) (os : List Int) (no nt : Nat) (tm : Int) : Prop where
 each : ∀ i, i < nc → CaGood nt tm (f i) = true
 ord : ∀ i, i < no → OrdAt f nc os i
 few : nc ≤ 40
 all : soN f nc = no
def callsL (f : Nat → CaD) (t : Int) : Nat → List CaD
 | 0 => []
 | n + 1 => callsL f t n ++ if (f n).t = t then [f n] else []
def TaskGood (x : ThD) (L : List CaD) : Prop :=
 if x.on = true then ∃ L' c, L = L' ++ [c] ∧ (c.kd = x.fs.getD (x.pc.toNat * 3) 0 ∧ c.k = x.fs.getD (x.pc.toNat * 3 + 1) 0 ∧ c.v = x.fs.getD (x.pc.toNat * 3 + 2) 0) ∧ c.en = -1 ∧ (L'.length : Int) = x.pc ∧ ∀ d ∈ L', 0 ≤ d.en
 else (L.length : Int) = x.pc ∧ ∀ d ∈ L, 0 ≤ d.en
def lastN (f : Nat → CaD) (t : Int) : Nat → Int
 | 0 => -1
 | n + 1 => if (f n).t = t then (n : Int) else lastN f t n
theorem lastN_lt (f : Nat → CaD) (t : Int) : ∀ n, -1 ≤ lastN f t n ∧ lastN f t n < (n : Int)
 | 0 => by unfold lastN; omega
 | n + 1 => by have := lastN_lt f t n; unfold lastN; split <;> omega
def endN (f : Nat → CaD) (t : Int) : Nat → Nat
 | 0 => 0
 | n + 1 => endN f t n + if (f n).t = t ∧ 0 ≤ (f n).en then 1 else 0
theorem endN_le (f : Nat → CaD) (t : Int) : ∀ n, endN f t n ≤ n
 | 0 => Nat.le_refl _
 | n + 1 => by have := endN_le f t n; unfold endN; split <;> omega
structure TaskSpec (f : Nat → CaD) (nc : Nat) (t : Int) (x : ThD) : Prop where
 ends : ∀ i, i < nc → (f i).t = t → 0 ≤ (f i).en ∨ (x.on = true ∧ (i : Int) = lastN f t nc)
 pc : (endN f t nc : Int) = x.pc
 last : x.on = true → 0 ≤ lastN f t nc ∧ (f (lastN f t nc).toNat).en = -1 ∧ ((f (lastN f t nc).toNat).kd = x.fs.getD (x.pc.toNat * 3) 0 ∧ (f (lastN f t nc).toNat).k = x.fs.getD (x.pc.toNat * 3 + 1) 0 ∧ (f (lastN f t nc).toNat).v = x.fs.getD (x.pc.toNat * 3 + 2) 0)
theorem callsL_mem {f : Nat → CaD} {t : Int} : ∀ {n : Nat} {d : CaD}, d ∈ callsL f t n ↔ ∃ i, i < n ∧ (f i).t = t ∧ f i = d
 | 0, d => by simp [callsL]
 | n + 1, d => by
   unfold callsL
   rw [List.mem_append, callsL_mem]
   constructor
   · rintro (⟨i, hi, h1, h2⟩ | h)
     · exact ⟨i, by omega, h1, h2⟩
     · split at h
       · rename_i ht
         exact ⟨n, by omega, ht, (List.mem_singleton.1 h).symm⟩
       · simp at h
   · rintro ⟨i, hi, h1, h2⟩
     by_cases hin : i < n
     · exact .inl ⟨i, hin, h1, h2⟩
     · obtain rfl : i = n := by omega
       exact .inr (by rw [if_pos h1, h2]; exact List.mem_singleton.2 rfl)
theorem callsL_last {f : Nat → CaD} {t : Int} : ∀ {n : Nat}, (lastN f t n = -1 ∧ callsL f t n = []) ∨ (0 ≤ lastN f t n ∧ (f (lastN f t n).toNat).t = t ∧ callsL f t n = callsL f t (lastN f t n).toNat ++ [f (lastN f t n).toNat])
 | 0 => .inl ⟨rfl, rfl⟩
 | n + 1 => by
   by_cases h : (f n).t = t
   · have e : lastN f t (n + 1) = (n : Int) := by simp [lastN, h]
     have e2 : callsL f t (n + 1) = callsL f t n ++ [f n] := by simp [callsL, h]
     rw [e, e2]
     exact .inr ⟨by omega, by simpa using h, by simp⟩
   · have e : lastN f t (n + 1) = lastN f t n := by simp [lastN, h]
     have e2 : callsL f t (n + 1) = callsL f t n := by simp [callsL, h]
     rw [e, e2]
     exact callsL_last
theorem endN_len {f : Nat → CaD} {t : Int} : ∀ {n : Nat}, (∀ i, i < n → (f i).t = t → 0 ≤ (f i).en) → endN f t n = (callsL f t n).length
 | 0, _ => rfl
 | n + 1, h => by
   unfold endN callsL
   rw [List.length_append, endN_len fun i hi => h i (by omega)]
   by_cases ht : (f n).t = t
   · simp [ht, h n (by omega) ht]
   · simp [ht]
theorem endN_top {f : Nat → CaD} {t : Int} {m : Nat} : ∀ {n : Nat}, m ≤ n → (∀ i, m ≤ i → i < n → (f i).t ≠ t ∨ (f i).en < 0) → endN f t n = endN f t m
 | 0, h, _ => by
   have e : m = 0 := by omega
   rw [e]
 | n + 1, h, g => by
   by_cases hm : m = n + 1
   · rw [hm]
   · have h1 := g n (by omega) (by omega)
     have e : endN f t (n + 1) = endN f t n := by
       rw [endN, if_neg (by omega)]
       omega
     rw [e, endN_top (by omega) fun i hi hn => g i hi (by omega)]
theorem lastN_top {f : Nat → CaD} {t : Int} : ∀ {n i : Nat}, i < n → (f i).t = t → (i : Int) ≤ lastN f t n
 | 0, i, h, _ => by omega
 | n + 1, i, h, ht => by
   unfold lastN
   split
   · omega
   · rename_i hn
     have : i ≠ n := fun e => hn (by rw [← e]; exact ht)
     exact lastN_top (by omega) ht
theorem task_iff {f : Nat → CaD} {nc : Nat} {t : Int} {x : ThD} : TaskSpec f nc t x ↔ TaskGood x (callsL f t nc) := by
 have hlast := lastN_lt f t nc
 rcases hon : x.on with _ | _
 · unfold TaskGood
   rw [hon, if_neg (by simp)]
   constructor
   · rintro ⟨h1, h2, -⟩
     have hall : ∀ i, i < nc → (f i).t = t → 0 ≤ (f i).en := fun i hi ht => by
       rcases h1 i hi ht with h | ⟨h, -⟩
       · exact h
       · rw [hon] at h; cases h
     refine ⟨by rw [← endN_len hall]; exact h2, fun d hd => ?_⟩
     obtain ⟨i, hi, ht, rfl⟩ := callsL_mem.1 hd
     exact hall i hi ht
   · rintro ⟨h1, h2⟩
     have hall : ∀ i, i < nc → (f i).t = t → 0 ≤ (f i).en := fun i hi ht => h2 _ (callsL_mem.2 ⟨i, hi, ht, rfl⟩)
     exact ⟨fun i hi ht => .inl (hall i hi ht), by rw [endN_len hall]; exact h1, fun h => by rw [hon] at h; cases h⟩
 · unfold TaskGood
   rw [hon, if_pos rfl]
   constructor
   · rintro ⟨h1, h2, h3⟩
     obtain ⟨h4, h5, h6⟩ := h3 hon
     rcases callsL_last (f := f) (t := t) (n := nc) with ⟨h, -⟩ | ⟨-, h7, h8⟩
     · omega
     have hall : ∀ i, i < (lastN f t nc).toNat → (f i).t = t → 0 ≤ (f i).en := fun i hi ht => by
       rcases h1 i (by omega) ht with h | ⟨-, h⟩
       · exact h
       · omega
     refine ⟨_, _, h8, h6, h5, ?_, fun d hd => ?_⟩
     · rw [← endN_len hall, ← h2]
       have := endN_top (f := f) (t := t) (m := (lastN f t nc).toNat) (n := nc) (by omega) fun i hi hn => by
         by_cases ht : (f i).t = t
         · have := lastN_top hn ht
           obtain rfl : i = (lastN f t nc).toNat := by omega
           exact .inr (by omega)
         · exact .inl ht
       omega
     · obtain ⟨i, hi, ht, rfl⟩ := callsL_mem.1 hd
       exact hall i hi ht
   · rintro ⟨L', c, hL, hop, hen, hlen, hall⟩
     rcases callsL_last (f := f) (t := t) (n := nc) with ⟨-, h⟩ | ⟨h6, h7, h8⟩
     · rw [h] at hL; simp at hL
     rw [h8] at hL
     obtain ⟨e1, e2⟩ := List.append_inj' hL rfl
     have e2 : f (lastN f t nc).toNat = c := by simpa using e2
     have hall' : ∀ i, i < (lastN f t nc).toNat → (f i).t = t → 0 ≤ (f i).en := fun i hi ht => hall _ (by rw [← e1]; exact callsL_mem.2 ⟨i, hi, ht, rfl⟩)
     refine ⟨fun i hi ht => ?_, ?_, fun _ => ⟨h6, by rw [e2]; exact hen, by rw [e2]; exact hop⟩⟩
     · have := lastN_top hi ht
       by_cases h : i < (lastN f t nc).toNat
       · exact .inl (hall' i h ht)
       · exact .inr ⟨hon, by omega⟩
     · rw [← hlen, ← e1, ← endN_len hall']
       have := endN_top (f := f) (t := t) (m := (lastN f t nc).toNat) (n := nc) (by omega) fun i hi hn => by
         by_cases ht : (f i).t = t
         · have := lastN_top hn ht
           obtain rfl : i = (lastN f t nc).toNat := by omega
           exact .inr (by rw [e2]; omega)
         · exact .inl ht
       omega
end
end Go.Proofs.YtlkdjeneggfhgaaGreatDoor
