import Derived.Test.YtomgdleoegaooaaF
import Derived.Test.YtomgdleoegaooaaJ
set_option linter.unusedVariables false
set_option linter.unusedSimpArgs false
namespace Go.Proofs.Ytomgdleoegaooaa
open Go.RowKit

theorem wk_red : rN 6 (-4) = -3 ∧ rD 6 (-4) = 2 := by decide +kernel
theorem wk_sum (W : World) (a : Option Addr) (h : Ints W a [9223372036854775807, 1, -1]) :
    Calls Try.prog 20 #[.slice a 3 3] W fun e w' => e = .returned (.tuple #[.int .i64 9223372036854775807, .int .i64 0]) ∧ Below W.heap.size W w' :=
  sum_ok a [9223372036854775807, 1, -1] 3 W h (by intro x hx; simp at hx; unfold I64; omega) (by simp) (by simp [lsum, I64])
theorem wk_mul (W : World) :
    Calls Try.prog 22 #[.int .i64 4611686018427387904, .int .i64 6, .int .i64 4] W fun e w' => e = .returned (.tuple #[.int .i64 6917529027641081856, .int .i64 0]) ∧ Below W.heap.size W w' :=
  muldiv_ok 4611686018427387904 6 4 (by unfold I64; omega) (by unfold I64; omega) (by unfold I64; omega) (by omega) (by unfold I64; omega) W
set_option maxRecDepth 100000 in
set_option maxHeartbeats 1000000 in
theorem works (w : World) : Calls Try.prog 19 #[] w fun e w' => e = .returned (.bool true) ∧ Below w.heap.size w w' := by
  have R := hide (red_ok 6 (-4) (by unfold I64; omega) (by unfold I64; omega) (by omega) (by rw [wk_red.1]; unfold I64; omega) (by rw [wk_red.2]; unfold I64; omega))
  rw [wk_red.1, wk_red.2] at R
  go_enter Try.func19, Try.ntmps19
  go_wp2_with fail
  refine (wk_sum _ _ (.inr ⟨w.heap.size, 0, rfl, by simp, fun i hi => ?_⟩)).mono ?_
  · simp at hi
    rcases i with _ | _ | _ | i
    · simp [go_sem]
    · simp [go_sem]
    · simp [go_sem]
    · omega
  rintro e w1 ⟨rfl, b1⟩
  have b1' := (Below.refl w.heap.size w).alloc (Nat.le_refl _) (Obj.cells #[Value.int IntKind.i64 9223372036854775807, Value.int IntKind.i64 1, Value.int IntKind.i64 (-1)] 2)
  have bb1 : Below w.heap.size w w1 := b1'.trans (b1.mono (by simp))
  clear b1 b1'
  go_wp2_with fail
  refine (wk_mul _).mono ?_
  rintro e w2 ⟨rfl, b2⟩
  have bb2 : Below w.heap.size w w2 := bb1.trans (b2.mono bb1.size)
  clear b2
  go_wp2_with fail
  refine (R.out _).mono ?_
  rintro e w3 ⟨rfl, b3⟩
  have bb3 : Below w.heap.size w w3 := bb2.trans (b3.mono bb2.size)
  clear b3
  go_wp2_with fail
  go_outline
  go_ways
  go_ret
  exact ⟨rfl, bb3.alloc bb3.size _⟩
end Go.Proofs.Ytomgdleoegaooaa
