/- The program's Split, walked: it hands back a new list that owns the parts of the text, in order. -/
import Derived.Test.YtpcbjifklcdnaafDoorSpecSplit
import Derived.Test.YtpcbjifklcdnaafDoorShelf
namespace Go.Proofs.YtpcbjifklcdnaafDoor
open Go.ChangeShapes Go.WideShapes Go.ChangeAt Go.RowKit Go.Lib

theorem clone_any (s : ByteArray) (w : World) (hlim : s.size ≤ 281474976710656) :
    Calls Tryd.prog 24 #[.string s] w fun e w' => e = .returned (.string s) ∧ Below w.heap.size w w' := by
  go_enter Tryd.func24, Tryd.ntmps24
  go_wp2_with (go_at_call 30; refine (Tryd.stringslite_Clone s _ hlim).mono ?_; rintro e w' ⟨rfl, hb⟩)
  go_ret
  exact ⟨rfl, hb⟩

/-- The length of the text in a slot. -/
def strLen : Value → Nat | .string s => s.size | _ => 0
theorem byte_int (b : UInt8) : ((b.toNat : Int)).toNat.toUInt8 = b := by simp

theorem rest_some {b : UInt8} {t : ByteArray} {l : List UInt8} {i : Nat} {done : List (List UInt8)} (hi : indexByte t.data.toList b = i) (h : done ++ splitB b t.data.toList = splitB b l) :
    (done ++ [(t.extract 0 i).data.toList]) ++ splitB b (t.extract (i + 1) t.size).data.toList = splitB b l ∧ i < t.size := by
  obtain ⟨h1, h2⟩ := splitB_some hi
  rw [h1] at h
  refine ⟨?_, by simpa using h2⟩
  rw [← h, extract_list, extract_list]
  simp [List.take_of_length_le]
theorem rest_none {b : UInt8} {t : ByteArray} {l : List UInt8} {done : List (List UInt8)} (hi : indexByte t.data.toList b = -1) (h : done ++ splitB b t.data.toList = splitB b l) :
    done ++ [t.data.toList] = splitB b l := by rw [splitB_none hi] at h; exact h
theorem rest_len {b : UInt8} {t : ByteArray} {l : List UInt8} {done : List (List UInt8)} (h : done ++ splitB b t.data.toList = splitB b l) : done.length ≤ l.length + 1 := by
  have h1 := splitB_len b l
  rw [← h] at h1
  simp at h1; omega

set_option maxHeartbeats 1000000 in
theorem implSplit_any (s : ByteArray) (b : UInt8) (hs : s.size ≤ 1048576) (w : World) :
    Calls Tryd.prog 11 #[.string s, .int .u8 (b.toNat : Int)] w fun e w' =>
      ∃ g cap, e = .returned (.slice (some ⟨g, 0, none⟩) (splitB b s.data.toList).length cap) ∧
        w'.ownsRow w.heap.size 9 1 (.slice (some ⟨g, 0, none⟩) (splitB b s.data.toList).length cap) (splitB b s.data.toList).length ((splitB b s.data.toList).map S) ∧ Below w.heap.size w w' := by
  obtain ⟨i0, hi, hz0, hz1, hz2⟩ := info_parts infoStr
  go_enter Tryd.func11, Tryd.ntmps11
  go_wp2
  go_loopw [0, 5] (fun sv v wr => ∃ (t : ByteArray) (done : List (List UInt8)), sv = .string t ∧ t.size ≤ s.size ∧
      wr.ownsRow w.heap.size 9 1 v done.length (done.map S) ∧ Below w.heap.size w wr ∧ done ++ splitB b t.data.toList = splitB b s.data.toList) (fun sv _ _ => strLen sv)
  case atStart => exact ⟨s, [], rfl, Nat.le_refl _, World.ownsRow_nil _ _ _ _, Below.refl _ _, rfl⟩
  case round =>
    obtain ⟨t, done, rfl, hts, hown, hb, hst⟩ := hrel
    have hdl := rest_len hst
    simp only [Array.length_toList, ByteArray.size_data] at hdl
    have HST : Hid (done ++ splitB b t.data.toList = splitB b s.data.toList) := hst
    have hB := hb.size
    clear hst
    by_cases hn : indexByte t.data.toList b = -1
    · have HN : Hid (indexByte t.data.toList b = -1) := hn
      go_wp2_with (first
        | (go_at_call 23; refine (Tryd.strings_IndexByte t _ _).mono ?_; rintro e w' ⟨rfl, rfl⟩; rw [byte_int, HN.out])
        | (go_at_call 24; refine (clone_any t _ (by omega)).mono ?_; rintro e w1 ⟨rfl, hb1⟩; have ho1 := owns_below hown hb1 (Nat.le_refl _); have hB1 := hb1.size)
        | (at_builtin; refine wpList_append_own _ rfl _ _ 32 rfl w.heap.size 9 i0 (.string ⟨#[]⟩) 1 16 Tryd.underlying32 hi hz0 hz1 hz2 rfl (by decide) _ _ _ rfl (ho1.alloc _) ⟨w1.heap.size, 0, none⟩ 1 1 [.string t] rfl rfl ?c1 ?c2 ?c3 ?c4 ?c5 ?_))
      case c1 =>
        intro j u hj
        match j, hj with
        | 0, hj => simp at hj; subst hj; simp [Addr.add]
      case c2 => intro u hu; simp at hu; subst hu; rfl
      case c3 => unfold maxLen; omega
      case c4 => omega
      case c5 => simp; omega
      · intro v1 w2 hown1 hgrow _
        have R := append_step (by omega) ho1 (hb.trans (hb1.mono hB)) hown1 hgrow rfl
        rw [rest_none HN.out HST.out] at R
        obtain ⟨g, cap, rfl⟩ := own_some R.1 (List.length_pos_iff.2 (splitB_ne _ _))
        clear hown1 hgrow hown ho1
        go_wp2
        go_ret
        exact ⟨g, cap, rfl, R.1, R.2⟩
    · obtain ⟨i, hix⟩ : ∃ i : Nat, indexByte t.data.toList b = (i : Int) := ⟨(indexByte t.data.toList b).toNat, by have := indexByte_ge t.data.toList b; omega⟩
      obtain ⟨hrest, hit⟩ := rest_some hix HST.out
      have HN : Hid (indexByte t.data.toList b = (i : Int)) := hix
      have HR : Hid ((done ++ [(t.extract 0 i).data.toList]) ++ splitB b (t.extract (i + 1) t.size).data.toList = splitB b s.data.toList) := hrest
      have hes : (t.extract 0 i).size ≤ 1048576 := by simp; omega
      have hsl : ∀ w, (Instr.slice 9 (.string t) none (some (.int .i64 (i : Int))) none).run Tryd.prog w = .ok (.string (t.extract 0 i)) w := fun w =>
        run_slice_string_h w _ t Tryd.underlying9 .i64 (i : Int) (by omega) (by omega)
      have hsr : ∀ w, (Instr.slice 9 (.string t) (some (.int .i64 ((i : Int) + 1))) none none).run Tryd.prog w = .ok (.string (t.extract (i + 1) t.size)) w := fun w =>
        run_slice_string_l w _ t Tryd.underlying9 .i64 ((i : Int) + 1) (by omega) (by omega)
      clear hn hix hrest
      go_wp2_with (first
        | (go_at_call 23; refine (Tryd.strings_IndexByte t _ _).mono ?_; rintro e w' ⟨rfl, rfl⟩; rw [byte_int, HN.out])
        | (go_at_call 24; refine (clone_any (t.extract 0 i) _ (by omega)).mono ?_; rintro e w1 ⟨rfl, hb1⟩; have ho1 := owns_below hown hb1 (Nat.le_refl _); have hB1 := hb1.size)
        | (at_builtin; refine wpList_append_own _ rfl _ _ 32 rfl w.heap.size 9 i0 (.string ⟨#[]⟩) 1 16 Tryd.underlying32 hi hz0 hz1 hz2 rfl (by decide) _ _ _ rfl (ho1.alloc _) ⟨w1.heap.size, 0, none⟩ 1 1 [.string (t.extract 0 i)] rfl rfl ?d1 ?d2 ?d3 ?d4 ?d5 ?_))
      case d1 =>
        intro j u hj
        match j, hj with
        | 0, hj => simp at hj; subst hj; simp [Addr.add]
      case d2 => intro u hu; simp at hu; subst hu; rfl
      case d3 => unfold maxLen; omega
      case d4 => omega
      case d5 => simp; omega
      · intro v1 w2 hown1 hgrow _
        have R := append_step (by omega) ho1 (hb.trans (hb1.mono hB)) hown1 hgrow rfl
        clear hown1 hgrow hown ho1
        go_wp2
        go_roundw
        case rel => exact ⟨_, _, rfl, by simp; omega, R.1, R.2, HR.out⟩
        case measure => simp [strLen]; omega
end Go.Proofs.YtpcbjifklcdnaafDoor
