/- impl.WordOk, walked at any word and any number of threads. -/
import Derived.Test.YtbdfopokimpeiaqWithin
import Derived.Test.YtbdfopokimpeiaqSpecWord
import Derived.Test.YtbdfopokimpeiaqIsMark
import Derived.OpenShut
import Derived.ChangeOld
namespace Go.Proofs.Ytbdfopokimpeiaq
open Go.ChangeShapes Go.WideShapes Go.ChangeAt Go.RowKit Go.Joins

set_option maxHeartbeats 1000000 in
theorem implWordOk_any (n t s th : Int) (w : World) : Calls Try.prog 58 #[WordV n t s, .int .i64 th] w fun e w' => e = .returned (.bool (wordOkM n t s th)) ∧ Below w.heap.size w w' := by
  have hb0 : Below w.heap.size w (w.alloc (.cells #[.int .i64 n, .int .i64 t, .int .i64 s] 80)) := (Below.refl _ w).alloc (Nat.le_refl _) _
  have HB : Hid _ := hb0
  clear hb0
  obtain ⟨B, hB⟩ : ∃ B, wordOkM n t s th = B := ⟨_, rfl⟩
  rw [hB]
  have HM : Hid (wordOkM n t s th = B) := hB
  clear hB
  have HW : Hid (∀ w1, Below (w.heap.size + 1) (w.alloc (.cells #[.int .i64 n, .int .i64 t, .int .i64 s] 80)) w1 → w1.cell? ⟨w.heap.size, 0, none⟩ = some (.int .i64 n) ∧ w1.cell? ⟨w.heap.size, 1, none⟩ = some (.int .i64 t) ∧ w1.cell? ⟨w.heap.size, 2, none⟩ = some (.int .i64 s) ∧ Below w.heap.size w w1) := fun w1 h =>
    ⟨by rw [h.cell (by simp)]; simp, by rw [h.cell (by simp)]; simp, by rw [h.cell (by simp)]; simp, HB.out.trans (h.mono (by simp))⟩
  clear HB
  by_cases ht : t = 0
  · subst ht
    go_enter Try.func58, Try.ntmps58
    go_wp2_with fail
    refine (isMark_any n 0 s _).mono ?_
    rintro e w1 ⟨rfl, hb1⟩
    obtain ⟨c0, c1, c2, hb⟩ := HW.out w1 (by simpa using hb1)
    rw [show ((0 : Int) != 0) = false from rfl]
    clear hb1 HW
    rcases hi : inB n 0 1000 with _ | _
    · obtain rfl : B = false := by rw [← HM.out]; simp [wordOkM, hi]
      have HI : Hid (inB n 0 1000 = false) := hi
      clear HM hi
      go_wp2_with fail
      refine (within_g n 0 1000 _).mono ?_
      rintro e w2 ⟨rfl, rfl⟩
      rw [HI.out]
      go_wp2
      go_ret
      exact ⟨rfl, hb⟩
    · have HI : Hid (inB n 0 1000 = true) := hi
      have HS : Hid ((s == 0) = B) := by show _ = _; rw [← HM.out, Bool.eq_iff_iff]; simp [wordOkM, hi]
      clear HM hi
      go_wp2_with fail
      refine (within_g n 0 1000 _).mono ?_
      rintro e w2 ⟨rfl, rfl⟩
      rw [HI.out]
      go_wp2
      go_ret
      exact ⟨by rw [HS.out]; rfl, hb⟩
  · have ht' : (t != 0) = true := by simpa using ht
    go_enter Try.func58, Try.ntmps58
    go_wp2_with fail
    refine (isMark_any n t s _).mono ?_
    rintro e w1 ⟨rfl, hb1⟩
    obtain ⟨c0, c1, c2, hb⟩ := HW.out w1 (by simpa using hb1)
    rw [ht']
    clear hb1 HW ht'
    by_cases hn : n = 0
    · subst hn
      rcases hi : inB t 1 th with _ | _
      · obtain rfl : B = false := by rw [← HM.out]; simp [wordOkM, ht, hi]
        have HI : Hid (inB t 1 th = false) := hi
        clear HM ht hi
        go_wp2_with fail
        refine (within_g t 1 th _).mono ?_
        rintro e w2 ⟨rfl, rfl⟩
        rw [HI.out]
        go_wp2
        go_ret
        exact ⟨rfl, hb⟩
      · have HI : Hid (inB t 1 th = true) := hi
        have HS : Hid (inB s 1 1000000 = B) := by show _ = _; rw [← HM.out]; simp [wordOkM, ht, hi]
        clear HM ht hi
        go_wp2_with fail
        refine (within_g t 1 th _).mono ?_
        rintro e w2 ⟨rfl, rfl⟩
        rw [HI.out]
        go_wp2_with fail
        refine (within_g s 1 1000000 _).mono ?_
        rintro e w3 ⟨rfl, rfl⟩
        rw [HS.out]
        go_wp2
        go_ret
        exact ⟨rfl, hb⟩
    · have hn' : (n == 0) = false := by simpa using hn
      obtain rfl : B = false := by rw [← HM.out]; simp [wordOkM, ht, hn]
      clear HM hn ht
      go_wp2
      go_ret
      exact ⟨rfl, hb⟩
theorem cellsLWord : Try.prog.cellsOf 88 = 3 := by kernel_rfl
set_option maxRecDepth 100000 in
theorem open_word {H : Type} {enc : TypeId × Value → H} {W : World} {base b0 : Nat} {held : Bool} {v : Value} {d : DataW H} {p : List MemPlace}
    (hv : Value.okWide Try.prog W .any b0 88 v) (h : DataW.Trod enc Try.prog W base (fun _ => true) held 88 v d p) :
    ∃ (n t s : Int), v = WordV n t s := by
  obtain ⟨v0, v1, v2, y0, y1, y2, m, rfl, rfl, rfl, h0, h1, h2⟩ := open_agg3 Try.underlying88 (by kernel_rfl) cellsLWord hv h
  obtain ⟨x0, e0, rfl, w0⟩ := DataW.trod_int Try.underlying3 h0
  obtain ⟨x1, e1, rfl, w1⟩ := DataW.trod_int Try.underlying3 h1
  obtain ⟨x2, e2, rfl, w2⟩ := DataW.trod_int Try.underlying3 h2
  obtain rfl : v0 = .int .i64 x0 := by simpa using e0
  obtain rfl : v1 = .int .i64 x1 := by simpa using e1
  obtain rfl : v2 = .int .i64 x2 := by simpa using e2
  exact ⟨x0, x1, x2, rfl⟩
end Go.Proofs.Ytbdfopokimpeiaq
