/- Texts joined: NwC, MarkN, MarkI. -/
import Derived.Test.YtcfimaffeopbbaaGreatDoorQM22
import Derived.Test.YtcfimaffeopbbaaGreatDoorQM30
import Derived.Test.YtcfimaffeopbbaaGreatDoorQM04
import Derived.Handy
import Derived.Test.YtcfimaffeopbbaaGreatDoorQM11
set_option maxHeartbeats 400000
set_option maxRecDepth 100000
namespace Go.Proofs.YtcfimaffeopbbaaGreatDoor
section
open Go.ChangeShapes Go.WideShapes Go.ChangeAt Go.RowKit Go.Joins
theorem wordsF_len (L : List Int) : (wordsF L L.length).length = L.length * 3 := by unfold wordsF; exact flat3_len _ _
def ansC (L : List Int) (n : Nat) (cl : List Cel) (nh : Nat) (hs : List Int) (st : Int) (ok : Bool) : List Cel := if ok = true then newCs L n cl nh hs st else zeroC
theorem has_celI {T : TypeId} {k n : Nat} {fs : List Int} {ts : List Ty} (hl : fs.length = n * k) (hk : ts.length = k) (ht : ∀ t ∈ ts, t = .i) : Has (.l T k n (celI fs)) (.l T k ts) := by
 refine .l _ _ _ _ _ hk (by unfold celI; simpa using hl) fun j c t hc h => ?_
 obtain rfl := ht t (List.mem_of_getElem? h)
 unfold celI at hc
 rw [List.getElem?_map] at hc
 obtain ⟨x, -, rfl⟩ := Option.map_eq_some_iff.1 hc
 exact .i x
theorem has_nil (T : TypeId) (k : Nat) (ts : List Ty) (hk : ts.length = k) : Has (.l T k 0 []) (.l T k ts) := .l _ _ _ _ _ hk (by simp) (fun j c t hc _ => by simp at hc)
theorem has_zdc (n : Nat) : Has (.l 104 5 n (zdc n)) (.l 104 5 tyDesc) := by
 refine .l _ _ _ _ _ rfl (flat_len (k := 5) n (fun _ _ => rfl)) fun j c t hc ht => ?_
 have hj : j < n * 5 := by have := (List.getElem?_eq_some_iff.1 hc).1; unfold zdc at this; rwa [flat_len (k := 5) n (fun _ _ => rfl)] at this
 have hd : j / 5 < n := by omega
 have hm : j % 5 < 5 := by omega
 unfold zdc at hc
 rw [show j = (j / 5) * 5 + j % 5 by omega, flat_at (k := 5) n (fun _ _ => rfl) (j / 5) (j % 5) hd hm] at hc
 rcases (show j % 5 = 0 ∨ j % 5 = 1 ∨ j % 5 = 2 ∨ j % 5 = 3 ∨ j % 5 = 4 by omega) with e | e | e | e | e <;> rw [e] at hc ht
 · cases hc; cases ht; exact .i 0
 · cases hc; cases ht; exact .i 0
 · cases hc; cases ht; exact has_nil _ _ _ rfl
 · cases hc; cases ht; exact .i 0
 · cases hc; cases ht; exact has_nil _ _ _ rfl
theorem HasL.put {c : Cel} {t : Ty} {cs : List Cel} {ts : List Ty} (h : Has c t) (hs : HasL cs ts) : HasL (c :: cs) (t :: ts) := by
 refine ⟨by simp [hs.1], fun j d u hd hu => ?_⟩
 cases j with
 | zero => simp at hd hu; subst hd hu; exact h
 | succ j => exact hs.2 j d u (by simpa using hd) (by simpa using hu)
theorem hasL_no : HasL [] [] := ⟨rfl, fun j d u hd _ => by simp at hd⟩
theorem ansC_has {L : List Int} {n : Nat} {cl : List Cel} {nh : Nat} {hs : List Int} {st : Int} {ok : Bool} (hlh : Has (.l 55 1 n cl) (.l 55 1 tyOpS)) (hh : hs.length = nh) : HasL (ansC L n cl nh hs st ok) tyMachine := by
 unfold ansC
 split
 · exact .put (has_celI (wordsF_len L) rfl iWord) (.put (has_zdc n) (.put (thsNew_has hlh (Nat.le_refl _)) (.put (.i 0) (.put (has_nil _ _ _ rfl) (.put (has_nil _ _ _ rfl) (.put (has_celI (by omega) rfl i1) (.put (.i st) hasL_no)))))))
 · exact .put (has_nil _ _ _ rfl) (.put (has_nil _ _ _ rfl) (.put (has_nil _ _ _ rfl) (.put (.i 0) (.put (has_nil _ _ _ rfl) (.put (has_nil _ _ _ rfl) (.put (has_nil _ _ _ rfl) (.put (.i 0) hasL_no)))))))
theorem cnt_flat {f : Nat → List Cel} {B : Nat} : ∀ n, (∀ i, i < n → cntL (f i) ≤ B) → cntL ((List.range n).flatMap f) ≤ n * B
 | 0, _ => by simp [cntL]
 | n + 1, h => by
   rw [List.range_succ, List.flatMap_append, cntL_append]
   have h1 := cnt_flat n (fun i hi => h i (by omega))
   have h2 := h n (by omega)
   have h3 : cntL (List.flatMap f [n]) = cntL (f n) := by simp
   rw [h3, Nat.succ_mul]
   omega
theorem cnt_celI (fs : List Int) : cntL (celI fs) = fs.length := by
 induction fs with
 | nil => rfl
 | cons x r ih => simp only [celI, List.map_cons, cntL, Cel.cnt, List.length_cons] at ih ⊢; omega
theorem cnt_op {n : Nat} {cs : List Cel} (h : Has (.l 82 3 n cs) (.l 82 3 tyOp)) : (Cel.l 82 3 n cs).cnt = n * 3 := by
 have h1 := celI_nums h iOp
 have h2 : cs.length = n * 3 := by cases h with | l _ _ _ _ _ _ hl _ => exact hl
 simp only [Cel.cnt]
 rw [← h1, cnt_celI]
 unfold nums
 rw [List.length_map, h2]
theorem cnt_ths {n : Nat} {cl : List Cel} (hlh : Has (.l 55 1 n cl) (.l 55 1 tyOpS)) (hb : bigL cl ≤ 1048576) : cntL (thsNew cl n) ≤ n * 3145730 := by
 refine cnt_flat n fun i hi => ?_
 have hli : i < cl.length := by cases hlh with | l _ _ _ _ _ _ hl _ => omega
 have hT : Has (cl[i]'hli) (.l 82 3 tyOp) := by
   cases hlh with
   | l _ _ _ _ _ hk' hl' hh => exact hh i _ _ (List.getElem?_eq_getElem hli) (by rw [Nat.mod_one]; rfl)
 have hn : nthC cl i = cl[i]'hli := by unfold nthC; rw [List.getD_eq_getElem?_getD, List.getElem?_eq_getElem hli]; rfl
 have hbg := big_mem (List.getElem?_eq_getElem hli)
 obtain ⟨pn, pcs, e, -⟩ := hT.list
 rw [hn]
 rw [e] at hT hbg ⊢
 have h1 := cnt_op hT
 have h2 : pn ≤ (Cel.l 82 3 pn pcs).big := big_len
 simp only [thNew, cntL]
 rw [h1]
 simp only [Cel.cnt, cntL]
 omega
theorem cnt_zdc (n : Nat) : cntL (zdc n) ≤ n * 3 := cnt_flat n fun _ _ => by simp [cntL, Cel.cnt]
theorem ansC_cnt {L : List Int} {n : Nat} {cl : List Cel} {nh : Nat} {hs : List Int} {st : Int} {ok : Bool} (hlh : Has (.l 55 1 n cl) (.l 55 1 tyOpS)) (hn : n ≤ 1048576) (hb : bigL cl ≤ 1048576) (hh : hs.length ≤ 1048576) (hL : L.length ≤ 1048576) : tcnt (ansC L n cl nh hs st ok) ≤ 4000000000000 := by
 unfold ansC
 split
 · have h1 := cnt_ths hlh hb
   have h2 := cnt_zdc n
   have h3 := cnt_celI hs
   have h4 := cnt_celI (wordsF L L.length)
   have h5 := wordsF_len L
   have h6 : n * 3145730 ≤ 1048576 * 3145730 := Nat.mul_le_mul_right _ hn
   simp only [newCs, tcnt, cntL]
   omega
 · simp [zeroC, tcnt, cntL]
theorem specC (p o nh hc : Nat) (st : Int) (hs L : List Int) (v : Value) (n : Nat) (cl : List Cel) (w : World) (hnh : nh ≤ 2097152) (hA : IntAt w (some ⟨p, o, none⟩) nh hs) (hL : TellsL hs st L) (hl : At true w v (.l 55 1 n cl)) (hlh : Has (.l 55 1 n cl) (.l 55 1 tyOpS)) :
   Calls Tryz.prog 6 #[.agg #[.slice (some ⟨p, o, none⟩) nh hc, .int .i64 st], v] w fun e w' => ∃ us ok, (e = .returned (.tuple #[.agg us.toArray, .bool ok]) ∧ (ok = true ↔ NewOk L n cl nh hs st) ∧ AtL false w' us (ansC L n cl nh hs st ok)) ∧ Below w.heap.size w w' := by
 obtain ⟨la, lc, rfl⟩ := hl.slice
 refine (specMachineNew_any p o nh hc st hs L la n lc cl w hnh hA hL hl hlh).mono ?_
 rintro e w' ⟨⟨us, ok, rfl, ⟨rfl, h1, h2⟩ | ⟨rfl, h1, h2⟩⟩, hb⟩
 · exact ⟨us, true, ⟨rfl, ⟨fun _ => h1, fun _ => rfl⟩, h2⟩, hb⟩
 · exact ⟨us, false, ⟨rfl, ⟨(fun h => by cases h), fun h => absurd h h1⟩, h2⟩, hb⟩
theorem implC (p o nh : Nat) (st : Int) (hs L : List Int) (v : Value) (n : Nat) (cl : List Cel) (w : World) (hnh : nh ≤ 2097152) (hA : IntAt w (some ⟨p, o, none⟩) nh hs) (hwf : ∀ x ∈ hs, (Lit.int .i64 x).wf = true) (hN : Names w) (hL : TellsL hs st L) (hl : At true w v (.l 55 1 n cl)) (hlh : Has (.l 55 1 n cl) (.l 55 1 tyOpS)) :
   Calls Tryz.prog 9 #[.agg #[.slice (some ⟨p, o, none⟩) nh nh, .int .i64 st], v] w fun e w' => ∃ us ok S, (e = .returned (.tuple #[.agg us.toArray, .bool ok]) ∧ (ok = true ↔ NewOk L n cl nh hs st) ∧ OwnL w' w.heap.size us (ansC L n cl nh hs st ok) S) ∧ Below w.heap.size w w' := by
 obtain ⟨la, lc, rfl⟩ := hl.slice
 refine (implMachineNew_any p o nh st hs L la n lc cl w hnh hA hwf hN hL hl hlh).mono ?_
 rintro e w' ⟨⟨us, ok, S, rfl, ⟨rfl, h1, h2⟩ | ⟨rfl, h1, h2⟩⟩, hb⟩
 · exact ⟨us, true, S, ⟨rfl, ⟨fun _ => h1, fun _ => rfl⟩, h2⟩, hb⟩
 · exact ⟨us, false, S, ⟨rfl, ⟨(fun h => by cases h), fun h => absurd h h1⟩, h2⟩, hb⟩
end
section
open Go.ChangeShapes Go.WideShapes Go.ChangeAt Go.RowKit
def marksI (n : Nat) : List Int := (List.range n).map fun (i : Nat) => (i : Int) + 1
theorem markI_step (n j : Nat) (xs : List Int) (hx : xs.length = n) (h : j < n) :
   ((marksI j ++ xs.drop j).map I).set j (I ((j : Int) + 1)) = (marksI (j + 1) ++ xs.drop (j + 1)).map I := by
 have e : marksI (j + 1) = marksI j ++ [(j : Int) + 1] := by simp [marksI, List.range_succ]
 rw [← List.map_set, e]
 congr 1
 rw [List.set_append_right _ _ (by simp [marksI]), show j - (marksI j).length = 0 by simp [marksI], List.drop_eq_getElem_cons (show j < xs.length by omega), List.set_cons_zero, List.append_assoc]
 rfl
theorem markIntS_own (base g n cap : Nat) (xs : List Int) (w : World) (hx : xs.length = n) (hn : n ≤ 1099511627776)
   (hown : w.ownsRow base 3 1 (.slice (some ⟨g, 0, none⟩) n cap) n (xs.map I)) :
   Calls Tryz.prog 34 #[.slice (some ⟨g, 0, none⟩) n cap, .int .i64 1] w fun e w' =>
     e = .returned (.int .i64 ((n : Int) + 1)) ∧ w'.ownsRow base 3 1 (.slice (some ⟨g, 0, none⟩) n cap) n ((marksI n).map I) ∧ Below base w w' ∧ w'.heap.size = w.heap.size ∧ ∀ k, k ≠ g → w'.heap[k]? = w.heap[k]? := by
 have HX : Hid (xs.length = n) := hx
 clear hx
 go_enter Tryz.func34, Tryz.ntmps34
 go_wp2
 go_loopw [1, 5] (fun q i wr => ∃ j : Nat, j ≤ n ∧ q = .int .i64 ((j : Int) + 1) ∧ i = .int .i64 (j : Int) ∧ wr.ownsRow base 3 1 (.slice (some ⟨g, 0, none⟩) n cap) n ((marksI j ++ xs.drop j).map I) ∧ Below base w wr ∧ wr.heap.size = w.heap.size ∧ ∀ k, k ≠ g → wr.heap[k]? = w.heap[k]?) (fun _ i _ => n - (intOf i).toNat)
 case atStart => exact ⟨0, Nat.zero_le _, rfl, rfl, by simpa [marksI] using hown, Below.refl _ _, rfl, fun _ _ => rfl⟩
 case round =>
   obtain ⟨j, hj, rfl, rfl, ho, hb, hsz, hoth⟩ := hrel
   have HOT : Hid (∀ k, k ≠ g → wr.heap[k]? = w.heap[k]?) := hoth
   clear hown hoth
   by_cases hlt : j < n
   · have hf1 := ho.frozenAt j
     obtain ⟨u, hc1⟩ := own_cell ho hlt
     have ho1 := ho.stored j (I ((j : Int) + 1))
     rw [markI_step n j xs HX.out hlt] at ho1
     have HO1 : Hid ((wr.setCell ⟨g, j, none⟩ (I ((j : Int) + 1))).ownsRow base 3 1 (.slice (some ⟨g, 0, none⟩) n cap) n ((marksI (j + 1) ++ xs.drop (j + 1)).map I)) := ho1.1
     have hg := (own_base ho).1
     clear ho ho1
     go_wp2
     go_roundw
     case rel => exact ⟨j + 1, by omega, by go_num, by go_num, HO1.out, hb.setCell hg _, by simpa [World.setCell] using hsz, fun k hk => (Below.heap_setCell _ _ _ _ hk).trans (HOT.out k hk)⟩
     case measure => simp [intOf]; omega
   · go_wp2
     go_ret
     obtain rfl : j = n := by omega
     refine ⟨rfl, ?_, hb, hsz, HOT.out⟩
     have hx := HX.out
     rwa [List.drop_of_length_le (by omega), List.append_nil] at ho
theorem markRows_own (base g n cap : Nat) (st : Int) (xs : List Int) (w : World) (hx : xs.length = n) (hn : n ≤ 1099511627776)
   (hown : w.ownsRow base 3 1 (.slice (some ⟨g, 0, none⟩) n cap) n (xs.map I)) :
   Calls Tryz.prog 13 #[RowsV (some ⟨g, 0, none⟩) n cap st, .int .i64 1] w fun e w' =>
     e = .returned (.int .i64 ((n : Int) + 1)) ∧ w'.ownsRow base 3 1 (.slice (some ⟨g, 0, none⟩) n cap) n ((marksI n).map I) ∧ w.heap.size ≤ w'.heap.size ∧ w'.os = w.os ∧ w'.tape = w.tape ∧ w'.output = w.output ∧ ∀ k, k < w.heap.size → k ≠ g → w'.heap[k]? = w.heap[k]? := by
 have HO : Hid (w.ownsRow base 3 1 (.slice (some ⟨g, 0, none⟩) n cap) n (xs.map I)) := hown
 clear hown
 go_enter Tryz.func13, Tryz.ntmps13
 go_wp2_with fail
 refine (markIntS_own base g n cap xs _ hx hn (HO.out.alloc _)).mono ?_
 rintro e w1 ⟨rfl, own1, hb1, hs1, ho1⟩
 have HO1 : Hid (w1.ownsRow base 3 1 (.slice (some ⟨g, 0, none⟩) n cap) n ((marksI n).map I)) := own1
 have HH : Hid (∀ k, k < w.heap.size → k ≠ g → w1.heap[k]? = w.heap[k]?) := fun k hk hkg => (ho1 k hkg).trans (Below.heap_alloc _ _ _ hk)
 have e1 : w1.os = w.os := hb1.os
 have e2 : w1.tape = w.tape := hb1.tape
 have e3 : w1.output = w.output := hb1.output
 have hsz : w.heap.size ≤ w1.heap.size := by simp at hs1; omega
 clear own1 ho1 hb1 hs1
 go_wp2
 go_ret
 exact ⟨rfl, HO1.out, hsz, e1, e2, e3, HH.out⟩
end
end Go.Proofs.YtcfimaffeopbbaaGreatDoor
