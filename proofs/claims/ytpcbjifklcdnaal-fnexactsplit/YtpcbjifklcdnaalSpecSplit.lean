/- The specification's Split, walked: it hands back a new list that owns the parts of the text, in order. -/
import Derived.Test.YtpcbjifklcdnaalStrAt
import Derived.Test.YtpcbjifklcdnaalSplitB
namespace Go.Proofs.Ytpcbjifklcdnaal
open Go.ChangeShapes Go.WideShapes Go.ChangeAt Go.RowKit Go.Lib

theorem append_step {w wr w1 : World} {base : Nat} {v v1 : Value} {done : List (List UInt8)} {x : ByteArray} {p : List UInt8} {o : Obj} (hB : base ≤ wr.heap.size) (hown : wr.ownsRow base 9 1 v done.length (done.map S)) (hb : Below base w wr)
    (h1 : w1.ownsRow base 9 1 v1 (done.length + 1) (done.map S ++ [.string x])) (hg : (wr.alloc o).grownBy w1 v.ownBlock) (hx : x.data.toList = p) :
    w1.ownsRow base 9 1 v1 (done ++ [p]).length ((done ++ [p]).map S) ∧ Below base w w1 := by
  refine ⟨?_, (hb.alloc hB _).grown hg (by simp; omega) fun k e => (hown.lt k e).1⟩
  rw [str_S, hx] at h1
  simpa using h1
theorem own_some {w : World} {base : Nat} {e : TypeId} {v : Value} {n : Nat} {xs : List Value} (h : w.ownsRow base e 1 v n xs) (hn : 0 < n) : ∃ g cap, v = .slice (some ⟨g, 0, none⟩) n cap := by
  rcases h.2 with ⟨_, h0⟩ | ⟨g, cap, _, rfl, _⟩
  · omega
  · exact ⟨g, cap, rfl⟩
theorem extract_list (s : ByteArray) (i j : Nat) : (s.extract i j).data.toList = (s.data.toList.drop i).take (j - i) := by simp [ByteArray.data_extract]

set_option maxHeartbeats 1000000 in
theorem specSplit_any (s : ByteArray) (b : UInt8) (hs : s.size ≤ 1048576) (w : World) :
    Calls Try.prog 7 #[.string s, .int .u8 (b.toNat : Int)] w fun e w' =>
      ∃ g cap, e = .returned (.slice (some ⟨g, 0, none⟩) (splitB b s.data.toList).length cap) ∧
        w'.ownsRow w.heap.size 9 1 (.slice (some ⟨g, 0, none⟩) (splitB b s.data.toList).length cap) (splitB b s.data.toList).length ((splitB b s.data.toList).map S) ∧ Below w.heap.size w w' := by
  obtain ⟨i0, hi, hz0, hz1, hz2⟩ := info_parts infoStr
  go_enter Try.func7, Try.ntmps7
  go_wp2
  go_loopw [5, 6, 7] (fun v fr i wr => ∃ (k f : Nat) (done : List (List UInt8)), i = .int .i64 (k : Int) ∧ fr = .int .i64 (f : Int) ∧
      wr.ownsRow w.heap.size 9 1 v done.length (done.map S) ∧ Below w.heap.size w wr ∧
      ((k ≤ s.size ∧ SplitAt b s.data.toList k f done) ∨ (k = s.size + 1 ∧ f ≤ k ∧ done = splitB b s.data.toList))) (fun _ _ i _ => s.size + 1 - (intOf i).toNat)
  case atStart => exact ⟨0, 0, [], rfl, rfl, World.ownsRow_made w #[] 0 (Nat.le_refl _) (by unfold maxLen; omega) rfl, (Below.refl _ _).alloc (Nat.le_refl _) _, .inl ⟨Nat.zero_le _, SplitAt.start _ _⟩⟩
  case round =>
    obtain ⟨k, f, done, rfl, rfl, hown, hb, hst⟩ := hrel
    rcases hst with ⟨hk, hst⟩ | ⟨rfl, hf, rfl⟩
    · have hdl := hst.len
      have hfk := hst.1
      simp only [Array.length_toList, ByteArray.size_data] at hdl
      have HST : Hid (SplitAt b s.data.toList k f done) := hst
      clear hst
      have hsl : ∀ w, (Instr.slice 9 (.string s) (some (.int .i64 (f : Int))) (some (.int .i64 (k : Int))) none).run Try.prog w = .ok (.string (s.extract f k)) w := fun w =>
        run_slice_string w _ s .i64 .i64 (f : Int) (k : Int) Try.underlying9 (by omega) (by omega) (by omega)
      have hx := extract_list s f k
      have HXX : Hid ((s.extract f k).data.toList = (s.data.toList.drop f).take (k - f)) := hx
      have hB := hb.size
      clear hx
      by_cases hend : k = s.size
      · subst hend
        go_wp2_with (first
          | (at_builtin; refine wpList_append_own _ rfl _ _ 25 rfl w.heap.size 9 i0 (.string ⟨#[]⟩) 1 16 Try.underlying25 hi hz0 hz1 hz2 rfl (by decide) _ _ _ rfl (hown.alloc _) ⟨wr.heap.size, 0, none⟩ 1 1 [.string (s.extract f s.size)] rfl rfl ?c1 ?c2 ?c3 ?c4 ?c5 ?_)
          | go_in)
        case c1 =>
          intro j u hj
          match j, hj with
          | 0, hj => simp at hj; subst hj; simp [Addr.add]
        case c2 => intro u hu; simp at hu; subst hu; rfl
        case c3 => unfold maxLen; omega
        case c4 => omega
        case c5 => simp; omega
        · intro v1 w1 hown1 hgrow _
          have R := append_step hB hown hb hown1 hgrow HXX.out
          clear hown1 hgrow hown
          go_wp2
          go_roundw
          case rel => exact ⟨s.size + 1, s.size + 1, _, by go_num, by go_num, R.1, R.2, .inr ⟨rfl, Nat.le_refl _, HST.out.fin (by simp)⟩⟩
          case measure => simp [intOf]
      · have hlt : k < s.size := by omega
        have hne : ((k : Int) == (s.size : Int)) = false := beq_false_of_ne (by omega)
        clear hend
        by_cases hc : s[k] = b
        · have hq : ((s[k].toNat : Int) == (b.toNat : Int)) = true := by simp [hc]
          go_wp2_with (first
            | (at_builtin; refine wpList_append_own _ rfl _ _ 25 rfl w.heap.size 9 i0 (.string ⟨#[]⟩) 1 16 Try.underlying25 hi hz0 hz1 hz2 rfl (by decide) _ _ _ rfl (hown.alloc _) ⟨wr.heap.size, 0, none⟩ 1 1 [.string (s.extract f k)] rfl rfl ?d1 ?d2 ?d3 ?d4 ?d5 ?_)
            | go_in)
          case d1 =>
            intro j u hj
            match j, hj with
            | 0, hj => simp at hj; subst hj; simp [Addr.add]
          case d2 => intro u hu; simp at hu; subst hu; rfl
          case d3 => unfold maxLen; omega
          case d4 => omega
          case d5 => simp; omega
          · intro v1 w1 hown1 hgrow _
            have R := append_step hB hown hb hown1 hgrow HXX.out
            clear hown1 hgrow hown
            go_wp2
            go_roundw
            case rel => exact ⟨k + 1, k + 1, _, by go_num, by go_num, R.1, R.2, .inl ⟨by omega, HST.out.yes (by simpa using hlt) hc⟩⟩
            case measure => simp [intOf]; omega
        · have hq : ((s[k].toNat : Int) == (b.toNat : Int)) = false := beq_false_of_ne (fun e => hc (UInt8.toNat_inj.1 (by omega)))
          go_wp2
          go_roundw
          case rel => exact ⟨k + 1, f, done, by go_num, rfl, hown, hb, .inl ⟨by omega, HST.out.no (by simpa using hlt) hc⟩⟩
          case measure => simp [intOf]; omega
    · have hne := splitB_ne b s.data.toList
      have hpos : 0 < (splitB b s.data.toList).length := List.length_pos_iff.2 hne
      obtain ⟨g, cap, rfl⟩ := own_some hown hpos
      clear hne hpos
      go_wp2
      go_ret
      exact ⟨g, cap, rfl, hown, hb⟩
end Go.Proofs.Ytpcbjifklcdnaal
