/- spec.WordOk, walked at any word and any number of threads. -/
import Derived.Test.YtbdfopokimpeiaqInB
import Derived.Test.YtbdfopokimpeiaqWrd1
namespace Go.Proofs.Ytbdfopokimpeiaq
open Go.ChangeShapes Go.WideShapes Go.ChangeAt Go.RowKit Go.Joins

/-- A number from 0 to 1000, or a mark of one of so many threads. -/
def wordOkM (n t s th : Int) : Bool := if t = 0 then (decide (s = 0) && inB n 0 1000) else (decide (n = 0) && (inB t 1 th && inB s 1 1000000))
set_option maxHeartbeats 1000000 in
theorem specWordOk_any (n t s th : Int) (w : World) : Calls Try.prog 55 #[WordV n t s, .int .i64 th] w fun e w' => e = .returned (.bool (wordOkM n t s th)) ∧ Below w.heap.size w w' := by
  have hb0 : Below w.heap.size w (w.alloc (.cells #[.int .i64 n, .int .i64 t, .int .i64 s] 80)) := (Below.refl _ w).alloc (Nat.le_refl _) _
  have HB : Hid _ := hb0
  clear hb0
  obtain ⟨B, hB⟩ : ∃ B, wordOkM n t s th = B := ⟨_, rfl⟩
  rw [hB]
  have HM : Hid (wordOkM n t s th = B) := hB
  clear hB
  by_cases ht : t = 0
  · subst ht
    by_cases hs : s = 0
    · subst hs
      go_enter Try.func55, Try.ntmps55
      go_wp2_with fail
      refine (l1In_g n 0 1000 _).mono ?_
      rintro e w1 ⟨rfl, rfl⟩
      rw [show inB n 0 1000 = B from by rw [← HM.out]; simp [wordOkM]]
      go_wp2
      go_ret
      exact ⟨rfl, HB.out⟩
    · have hs' : (s == 0) = false := by simpa using hs
      obtain rfl : B = false := by rw [← HM.out]; simp [wordOkM, hs]
      clear HM hs
      go_enter Try.func55, Try.ntmps55
      go_wp2
      go_ret
      exact ⟨rfl, HB.out⟩
  · have ht' : (t == 0) = false := by simpa using ht
    by_cases hn : n = 0
    · subst hn
      rcases hi : inB t 1 th with _ | _
      · obtain rfl : B = false := by rw [← HM.out]; simp [wordOkM, ht, hi]
        have HI : Hid (inB t 1 th = false) := hi
        clear HM ht hi
        go_enter Try.func55, Try.ntmps55
        go_wp2_with fail
        refine (l1In_g t 1 th _).mono ?_
        rintro e w1 ⟨rfl, rfl⟩
        rw [HI.out]
        go_wp2
        go_ret
        exact ⟨rfl, HB.out⟩
      · have HI : Hid (inB t 1 th = true) := hi
        have HS : Hid (inB s 1 1000000 = B) := by show _ = _; rw [← HM.out]; simp [wordOkM, ht, hi]
        clear HM ht hi
        go_enter Try.func55, Try.ntmps55
        go_wp2_with fail
        refine (l1In_g t 1 th _).mono ?_
        rintro e w1 ⟨rfl, rfl⟩
        rw [HI.out]
        go_wp2_with fail
        refine (l1In_g s 1 1000000 _).mono ?_
        rintro e w2 ⟨rfl, rfl⟩
        rw [HS.out]
        go_wp2
        go_ret
        exact ⟨rfl, HB.out⟩
    · have hn' : (n == 0) = false := by simpa using hn
      obtain rfl : B = false := by rw [← HM.out]; simp [wordOkM, ht, hn]
      clear HM hn ht
      go_enter Try.func55, Try.ntmps55
      go_wp2
      go_ret
      exact ⟨rfl, HB.out⟩
end Go.Proofs.Ytbdfopokimpeiaq
