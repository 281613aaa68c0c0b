/- The specification's Digits, walked: it hands back the decimal numeral of its argument, and nothing that was there turns. -/
import Derived.Test.YtmgofehafjogfaaRows
import Derived.Test.YtmgofehafjogfaaNums
import Derived.WalkKit
import Derived.ProofKit
import Derived.Laws.BytesArg
namespace Go.Proofs.Ytmgofehafjogfaa
open Go.ChangeShapes Go.WideShapes Go.ChangeAt Go.RowKit Go.Lib

theorem one_byte (w : World) (z : Int) :
    (convert 22 9 (.slice (some ⟨w.heap.size, 0, none⟩) 1 1)).run Try.prog (w.alloc (.cells #[.int .u8 z] 5)) = .ok (.string ⟨#[UInt8.ofNat z.toNat]⟩) (w.alloc (.cells #[.int .u8 z] 5)) := by
  have h := run_convert_bytes_arg (P := Try.prog) (w.alloc (.cells #[.int .u8 z] 5)) 22 5 Try.underlying22 Try.underlying5 w.heap.size 0 1 1 [z] rfl (fun i hi => by
    have : i = 0 := by omega
    subst this; simp [go_sem]) 9 Try.underlying9
  simpa [strOfNums] using h

theorem cons_str (x : UInt8) (s : ByteArray) : (({ data := #[x] } : ByteArray) ++ s).data.toList = x :: s.data.toList := by simp
theorem left_str {N k : Nat} {s : ByteArray} (hk : ¬ k = 0) (h : LeftD N k s.data.toList) : LeftD N (k / 10) (({ data := #[48 + UInt8.ofNat (k % 10)] } : ByteArray) ++ s).data.toList := by
  rw [cons_str]
  have := left_step (by omega) h
  rwa [UInt8.ofNat_add] at this

theorem left_str0 {N k : Nat} {s : ByteArray} (hk : ¬ k = 0) (hr : k % 10 = 0) (h : LeftD N k s.data.toList) : LeftD N (k / 10) (({ data := #[48] } : ByteArray) ++ s).data.toList := by
  have := left_str hk h
  rwa [hr] at this

end Go.Proofs.Ytmgofehafjogfaa
