/- What must be known, in plain words: which word is next (no program but the places' names). -/
import Derived.Test.YtekafaoleniebapDoorPairRd
import Derived.Test.YtekafaoleniebapDoorPlace
import Derived.Test.YtekafaoleniebapDoorClassOf
import Derived.Test.YtekafaoleniebapDoorOpM
namespace Go.Proofs.YtekafaoleniebapDoor

/-- How far one has come: the first place that is not known (-1: none till now), and whether there is no more. -/
abbrev Work := Int × Bool
/-- What stands at a place; what is not known stops. -/
def knowM (fs : List Int) (n : Nat) (s : Work) (at_ : Int) : Work × Int :=
  if s.2 = true then (s, 0) else if (readF fs at_ n).2 = false ∨ at_ < 0 then ((at_, true), 0) else (s, (readF fs at_ n).1)
def ifM (s : Work) (b : Prop) [Decidable b] : Work := (s.1, s.2 || decide b)
/-- How far the other way is made, and what it tells of what is held. -/
def viaM (fs : List Int) (n : Nat) (s : Work) (k : Int) (vals : List Int) : Work :=
  let r := knowM fs n s 13
  if k + 1 < r.2 then vals.foldl (fun s v => (knowM fs n s (placeN 5 v)).1) r.1 else r.1
def putM (fs : List Int) (n : Nat) (k v : Int) : Work :=
  let a := knowM fs n (-1, false) (placeN 1 k)
  let b := knowM fs n (ifM a.1 (a.2 ≠ 0)) (placeN 2 v)
  let c := knowM fs n (ifM b.1 (b.2 ≠ 0)) (placeN 3 (classN v))
  viaM fs n c.1 k [v]
def setM (fs : List Int) (n : Nat) (k v : Int) : Work :=
  let a := knowM fs n (-1, false) (placeN 1 k)
  let b := knowM fs n (ifM a.1 (a.2 = 0 ∨ a.2 = v)) (placeN 2 v)
  let c := knowM fs n (ifM b.1 (b.2 ≠ 0)) (placeN 2 a.2)
  let d := if classN a.2 = classN v then c.1 else (knowM fs n (knowM fs n c.1 (placeN 3 (classN a.2))).1 (placeN 3 (classN v))).1
  viaM fs n d k [a.2, v]
def delM (fs : List Int) (n : Nat) (k : Int) : Work :=
  let a := knowM fs n (-1, false) (placeN 1 k)
  let b := knowM fs n (ifM a.1 (a.2 = 0)) (placeN 2 a.2)
  let c := knowM fs n b.1 (placeN 3 (classN a.2))
  viaM fs n c.1 k [a.2]
def makeM (fs : List Int) (n : Nat) : Work :=
  let a := knowM fs n (-1, false) 13
  let b := knowM fs n (ifM a.1 (¬ (1 ≤ a.2 ∧ a.2 ≤ 4))) (placeN 1 (a.2 - 1))
  if b.2 = 0 then b.1 else (knowM fs n b.1 (placeN 5 b.2)).1
/-- How far an op's words are known. -/
def allM (fs : List Int) (n : Nat) (kind k v : Int) : Work :=
  if kind = 1 then putM fs n k v else if kind = 2 then setM fs n k v else if kind = 3 then delM fs n k
  else if kind = 4 then (knowM fs n (-1, false) (placeN 1 k)).1 else if kind = 5 then (knowM fs n (-1, false) (placeN 2 v)).1 else if kind = 6 then (knowM fs n (-1, false) (placeN 3 k)).1
  else if kind = 7 then (knowM fs n (knowM fs n (knowM fs n (knowM fs n (-1, false) (placeN 1 0)).1 (placeN 1 1)).1 (placeN 1 2)).1 (placeN 1 3)).1
  else if kind = 8 then (knowM fs n (-1, false) 13).1 else if kind = 9 then makeM fs n
  else (let a := knowM fs n (-1, false) 13; (knowM fs n (ifM a.1 (a.2 ≠ 5)) (placeN 5 v)).1)
/-- The place of the first word that is not known. -/
def nextM (fs : List Int) (n : Nat) (kind k v : Int) : Int := if OpGood kind k v then (allM fs n kind k v).1 else -1
theorem knowM_stop {fs : List Int} {n : Nat} {s : Work} (h : s.2 = true) (at_ : Int) : knowM fs n s at_ = (s, 0) := by unfold knowM; rw [if_pos h]
end Go.Proofs.YtekafaoleniebapDoor
