/- Texts joined: RegTail. -/
import Derived.Deep.RegionHeld3
/- A region that draws its order, from the point on at which no more is asked of the world: all that is left is not wanted, or is moved about in the frame. -/
namespace Go.Proofs.YthdpicmcgofghasGreat

/-- What an operation that only moves values about yields. -/
def pureVal (a : Act) : Op → Option Value
  | .move x => some (a.eval x)
  | .assign x => some (a.eval x)
  | .pick c x y => match a.eval c with
    | .bool true => some (a.eval x)
    | .bool false => some (a.eval y)
    | _ => none
  | _ => none
theorem pureVal_run {P : Program} {a : Act} {o : Oper} {v : Value} (h : pureVal a o.op = some v) (w : World) : (execOp a.eval o).run P w = .ok (.value v) w := by
  obtain ⟨dst, op, ty, pos, after, guard⟩ := o
  cases op <;> first | (simp only [pureVal] at h; cases h; done) | skip
  case move x => simp only [pureVal, Option.some.injEq] at h; subst h; simp [execOp, go_sem]
  case assign x => simp only [pureVal, Option.some.injEq] at h; subst h; simp [execOp, go_sem]
  case pick c x y =>
    simp only [pureVal] at h
    split at h
    · rename_i hc; simp only [Option.some.injEq] at h; subst h; simp only [execOp, hc]; rfl
    · rename_i hc; simp only [Option.some.injEq] at h; subst h; simp only [execOp, hc]; rfl
    · cases h
/-- What comes of one operation: nothing, where it is not wanted. -/
def tailVal (ops : Array Oper) (a : Act) (o : Oper) : Option Value := if Region.wanted o (yielded ops a.tmps) = true then pureVal a o.op else some undef
/-- The operations U, one behind the other. -/
def tailA (ops : Array Oper) : List Nat → Act → Act
  | [], a => a
  | i :: U, a => match ops[i]? with
    | some o => match tailVal ops a o with
      | some v => tailA ops U (a.put o.dst v)
      | none => a
    | none => a
def tailL : List Nat → Array Bool → Array Bool
  | [], L => L
  | i :: U, L => tailL U (L.setIfInBounds i true)
def tailB (md : Region.Mode) (ops : Array Oper) : List Nat → Array Bool → Act → Bool
  | [], _, _ => true
  | i :: U, L, a => match ops[i]? with
    | some o => match tailVal ops a o with
      | some v => Region.free md ops L i && (Region.ready md ops L).contains i && tailB md ops U (L.setIfInBounds i true) (a.put o.dst v)
      | none => false
    | none => false
theorem wpAnyH_tail {P : Program} {md : Region.Mode} {ops : Array Oper} {Q : Exit → Act → World → Prop} {S : World → Prop} (hs : Region.noSelect ops = true)
    (hQ : ∀ c (a : Act) (d : Option Tmp) (v : Value) w, Q (.panic c) (a.put d v) w → Q (.panic c) a w) {w : World} (hS : S w) :
    ∀ (U : List Nat) (fuel : Nat) (L : Array Bool) (a : Act), tailB md ops U L a = true → wpAnyH P md ops Q S fuel (tailL U L) (tailA ops U a) w → wpAnyH P md ops Q S (fuel + U.length) L a w
  | [], fuel, L, a, _, h => h
  | i :: U, fuel, L, a, hb, h => by
    unfold tailB at hb
    unfold tailA tailL at h
    cases ho : ops[i]? with
    | none => rw [ho] at hb; cases hb
    | some o =>
      rw [ho] at hb h
      dsimp only at hb h
      cases hv : tailVal ops a o with
      | none => rw [hv] at hb; cases hb
      | some v =>
        rw [hv] at hb h
        dsimp only at hb h
        simp only [Bool.and_eq_true] at hb
        obtain ⟨⟨h1, h2⟩, h3⟩ := hb
        have hy : YieldsIf P ops S o v a := by
          unfold tailVal at hv
          by_cases hw : Region.wanted o (yielded ops a.tmps) = true
          · rw [if_pos hw] at hv; exact .inl ⟨hw, fun w _ => pureVal_run hv w⟩
          · rw [if_neg hw] at hv; cases hv; exact .inr ⟨by simpa using hw, rfl⟩
        exact wpAnyH_take ho hs h1 h2 (fun c a' w' => hQ c a' _ _ w') hy hS (wpAnyH_tail hs hQ hS U fuel _ _ h3 h)
/-- .. and that is all. -/
theorem wpAnyH_end {P : Program} {md : Region.Mode} {ops : Array Oper} {Q : Exit → Act → World → Prop} {S : World → Prop} {w : World} (hS : S w) (U : List Nat) {L : Array Bool} {a : Act} (a' : Act)
    (hb : tailB md ops U L a = true) (ha : tailA ops U a = a') (hs : Region.noSelect ops = true) (hr : Region.ready md ops (tailL U L) = [])
    (hQ : ∀ c (a : Act) (d : Option Tmp) (v : Value) w, Q (.panic c) (a.put d v) w → Q (.panic c) a w) (h : Q .normal a' w) : wpAnyH P md ops Q S (0 + U.length) L a w :=
  wpAnyH_tail hs hQ hS U 0 L a hb (wpAnyH_done hr (ha ▸ h) _)
/-- .. and it goes on. -/
theorem wpAnyH_mid {P : Program} {md : Region.Mode} {ops : Array Oper} {Q : Exit → Act → World → Prop} {S : World → Prop} {w : World} (hS : S w) (U : List Nat) (fuel : Nat) {L : Array Bool} {a : Act}
    (hb : tailB md ops U L a = true) (hs : Region.noSelect ops = true)
    (hQ : ∀ c (a : Act) (d : Option Tmp) (v : Value) w, Q (.panic c) (a.put d v) w → Q (.panic c) a w) (h : wpAnyH P md ops Q S fuel (tailL U L) (tailA ops U a) w) : wpAnyH P md ops Q S (fuel + U.length) L a w :=
  wpAnyH_tail hs hQ hS U fuel L a hb h
end Go.Proofs.YthdpicmcgofghasGreat
