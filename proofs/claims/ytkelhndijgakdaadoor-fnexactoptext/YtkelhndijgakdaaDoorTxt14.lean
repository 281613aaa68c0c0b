/- The texts of ops, programs and results, as data. No program. -/
import Derived.Test.YtkelhndijgakdaaDoorOpM
import Derived.Test.YtkelhndijgakdaaDoorVal
import Derived.Test.YtkelhndijgakdaaDoorSplitB
import Derived.Test.YtkelhndijgakdaaDoorNums2
namespace Go.Proofs.YtkelhndijgakdaaDoor
open Go.Lib

/-- The word of a kind. -/
def nameB (k : Int) : List UInt8 :=
  if k = 1 then [112, 117, 116] else if k = 2 then [115, 101, 116] else if k = 3 then [100, 101, 108] else if k = 4 then [103, 101, 116] else if k = 5 then [102, 105, 110, 100]
  else if k = 6 then [99, 111, 117, 110, 116] else if k = 7 then [115, 99, 97, 110] else if k = 8 then [111, 112, 101, 110] else if k = 9 then [109, 97, 107, 101] else if k = 10 then [118, 105, 97] else []
def noneB : List UInt8 := [110, 111, 110, 101]
/-- The kind has a key, or a class. -/
def HasK (kind : Int) : Prop := kind = 1 ∨ kind = 2 ∨ kind = 3 ∨ kind = 4 ∨ kind = 6
/-- The kind has something that is held. -/
def HasV (kind : Int) : Prop := kind = 1 ∨ kind = 2 ∨ kind = 5 ∨ kind = 10
instance (kind : Int) : Decidable (HasK kind) := by unfold HasK; infer_instance
instance (kind : Int) : Decidable (HasV kind) := by unfold HasV; infer_instance
/-- What stands behind the word of a kind. -/
def tailB (kind k v : Int) : List UInt8 := (if HasK kind then 32 :: itoa k else []) ++ (if HasV kind then 32 :: itoa v else [])
/-- The text of an op. -/
def opB (kind k v : Int) : List UInt8 := if OpGood kind k v then nameB kind ++ tailB kind k v else noneB
/-- Its words. -/
def opP (kind k v : Int) : List (List UInt8) := nameB kind :: ((if HasK kind then [itoa k] else []) ++ (if HasV kind then [itoa v] else []))
theorem itoa_small {k : Int} (h0 : 0 ≤ k) (h1 : k ≤ 6) : itoa k = [UInt8.ofNat (48 + k.toNat)] := by
  obtain ⟨n, rfl⟩ : ∃ n : Nat, k = (n : Int) := ⟨k.toNat, by omega⟩
  rw [itoa_nonneg, dec_small (by omega)]
  simp
theorem small_cases {k : Int} (h0 : 0 ≤ k) (h1 : k ≤ 6) : k = 0 ∨ k = 1 ∨ k = 2 ∨ k = 3 ∨ k = 4 ∨ k = 5 ∨ k = 6 := by omega
theorem itoa_inj {k k' : Int} (h0 : 0 ≤ k) (h1 : k ≤ 6) (h0' : 0 ≤ k') (h1' : k' ≤ 6) (h : itoa k = itoa k') : k = k' := by
  rw [itoa_small h0 h1, itoa_small h0' h1'] at h
  rcases small_cases h0 h1 with rfl | rfl | rfl | rfl | rfl | rfl | rfl <;> rcases small_cases h0' h1' with rfl | rfl | rfl | rfl | rfl | rfl | rfl <;> first | rfl | (revert h; decide)
theorem itoa_num {k : Int} (h0 : 0 ≤ k) (h1 : k ≤ 6) : Num (itoa k) ∧ (val (itoa k) : Int) = k := by
  rw [itoa_small h0 h1]
  rcases small_cases h0 h1 with rfl | rfl | rfl | rfl | rfl | rfl | rfl <;> refine ⟨⟨by decide, by decide, ?_, .inl (by decide)⟩, by decide⟩ <;> (intro c hc; simp at hc; subst hc; decide)
/-- The number of a text, or 0. -/
def NumIs (l : List UInt8) (x : Int) : Prop := (Num l ∧ x = (val l : Int)) ∨ (¬ Num l ∧ x = 0)
theorem NumIs.itoa {k x : Int} (h0 : 0 ≤ k) (h1 : k ≤ 6) (h : NumIs (itoa k) x) : x = k := by
  obtain ⟨h2, h3⟩ := itoa_num h0 h1
  rcases h with ⟨_, rfl⟩ | ⟨h4, _⟩
  · exact h3
  · exact absurd h2 h4
theorem good_small {kind k v : Int} (h : OpGood kind k v) : (1 ≤ kind ∧ kind ≤ 10) ∧ (0 ≤ k ∧ k ≤ 6) ∧ (0 ≤ v ∧ v ≤ 6) ∧ (¬ HasK kind → k = 0) ∧ (¬ HasV kind → v = 0) := by
  unfold OpGood KeyGood ValGood at h
  unfold HasK HasV
  omega
theorem name_split {kind : Int} (h : 1 ≤ kind ∧ kind ≤ 10) : splitB 32 (nameB kind) = [nameB kind] ∧ ∀ l, splitB 32 (nameB kind ++ 32 :: l) = nameB kind :: splitB 32 l := by
  rcases kinds h with rfl | rfl | rfl | rfl | rfl | rfl | rfl | rfl | rfl | rfl <;> (refine ⟨by decide, fun l => ?_⟩; simp [nameB, splitB, addHead])
theorem digit_split {k : Int} (h0 : 0 ≤ k) (h1 : k ≤ 6) : splitB 32 (itoa k) = [itoa k] ∧ ∀ l, splitB 32 (itoa k ++ 32 :: l) = itoa k :: splitB 32 l := by
  rw [itoa_small h0 h1]
  rcases small_cases h0 h1 with rfl | rfl | rfl | rfl | rfl | rfl | rfl <;> (refine ⟨by decide, fun l => ?_⟩; simp [splitB, addHead])
theorem op_split {kind k v : Int} (h : OpGood kind k v) : splitB 32 (opB kind k v) = opP kind k v := by
  obtain ⟨hk, ⟨k0, k1⟩, ⟨v0, v1⟩, _, _⟩ := good_small h
  unfold opB opP tailB
  rw [if_pos h]
  by_cases hK : HasK kind <;> by_cases hV : HasV kind <;> simp only [hK, hV, if_true, if_false, List.append_nil, List.nil_append]
  · rw [List.cons_append, (name_split hk).2, (digit_split k0 k1).2, (digit_split v0 v1).1]; rfl
  · rw [(name_split hk).2, (digit_split k0 k1).1]
  · rw [(name_split hk).2, (digit_split v0 v1).1]
  · exact (name_split hk).1
theorem name_inj {a b : Int} (ha : 1 ≤ a ∧ a ≤ 10) (hb : 1 ≤ b ∧ b ≤ 10) (h : nameB a = nameB b) : a = b := by
  rcases kinds ha with rfl | rfl | rfl | rfl | rfl | rfl | rfl | rfl | rfl | rfl <;> rcases kinds hb with rfl | rfl | rfl | rfl | rfl | rfl | rfl | rfl | rfl | rfl <;> first | rfl | (revert h; decide)
theorem op_inj {a b c a' b' c' : Int} (h : OpGood a b c) (h' : OpGood a' b' c') (e : opB a b c = opB a' b' c') : a = a' ∧ b = b' ∧ c = c' := by
  have e1 : opP a b c = opP a' b' c' := by rw [← op_split h, ← op_split h', e]
  obtain ⟨ka, ⟨k0, k1⟩, ⟨v0, v1⟩, nk, nv⟩ := good_small h
  obtain ⟨ka', ⟨k0', k1'⟩, ⟨v0', v1'⟩, nk', nv'⟩ := good_small h'
  unfold opP at e1
  rw [List.cons.injEq] at e1
  obtain ⟨en, et⟩ := e1
  obtain rfl := name_inj ka ka' en
  refine ⟨rfl, ?_⟩
  by_cases hK : HasK a <;> by_cases hV : HasV a <;> simp only [hK, hV, if_true, if_false, List.append_nil, List.nil_append, List.cons_append, List.cons.injEq, and_true] at et
  · exact ⟨itoa_inj k0 k1 k0' k1' et.1, itoa_inj v0 v1 v0' v1' et.2⟩
  · exact ⟨itoa_inj k0 k1 k0' k1' et, (nv hV).trans (nv' hV).symm⟩
  · exact ⟨(nk hK).trans (nk' hK).symm, itoa_inj v0 v1 v0' v1' et⟩
  · exact ⟨(nk hK).trans (nk' hK).symm, (nv hV).trans (nv' hV).symm⟩
/-- What is read of a text. -/
def ReadO (l : List UInt8) (a b c : Int) (ok : Bool) : Prop :=
  (ok = true ∧ OpGood a b c ∧ opB a b c = l) ∨ (ok = false ∧ a = 0 ∧ b = 0 ∧ c = 0 ∧ ∀ a' b' c', OpGood a' b' c' → opB a' b' c' ≠ l)
theorem ReadO.one {l : List UInt8} {a b c a' b' c' : Int} {ok ok' : Bool} (h : ReadO l a b c ok) (h' : ReadO l a' b' c' ok') : a = a' ∧ b = b' ∧ c = c' ∧ ok = ok' := by
  rcases h with ⟨rfl, h1, h2⟩ | ⟨rfl, rfl, rfl, rfl, h1⟩ <;> rcases h' with ⟨rfl, k1, k2⟩ | ⟨rfl, rfl, rfl, rfl, k1⟩
  · obtain ⟨e1, e2, e3⟩ := op_inj h1 k1 (h2.trans k2.symm)
    exact ⟨e1, e2, e3, rfl⟩
  · exact absurd h2 (k1 _ _ _ h1)
  · exact absurd k2 (h1 _ _ _ k1)
  · exact ⟨rfl, rfl, rfl, rfl⟩
/-- The text of a program. -/
def progB (ops : List (Int × Int × Int)) : List UInt8 := join (ops.map fun o => opB o.1 o.2.1 o.2.2) [59]
/-- The text of a result. -/
def codeB (code : Int) : List UInt8 :=
  if code = 0 then [100, 111, 110, 101] else if code = 1 then [116, 104, 101, 114, 101] else if code = 2 then [116, 97, 107, 101, 110] else if code = 3 then [110, 111, 110, 101] else if code = 4 then [110, 111, 116] else [119, 104, 97, 116]
def resB (code : Int) (xs : List Int) : List UInt8 := if xs = [] then codeB code else codeB code ++ 32 :: numsB xs
end Go.Proofs.YtkelhndijgakdaaDoor
