/- The chapter's example of a clock. -/
import Derived.Test.YtimjkkamfgafoaaB
set_option linter.unusedVariables false
set_option linter.unusedSimpArgs false
namespace Go.Proofs.Ytimjkkamfgafoaa
open Go.RowKit

theorem i64_of {n : Int} (h : -9223372036854775808 ≤ n ∧ n ≤ 9223372036854775807) : I64 n := h
set_option maxRecDepth 100000 in
set_option maxHeartbeats 4000000 in
theorem works (w : World) : Calls Try.prog 14 #[] w fun e w' => e = .returned (.bool true) ∧ Below w.heap.size w w' := by
  have N0 := hide (new_t 10 w (by omega) (by omega))
  go_enter Try.func14, Try.ntmps14
  go_wp2_with fail
  refine N0.out.mono ?_
  rintro e w1 ⟨rfl, C, B⟩
  have HB := hide B
  have hz := C.lt
  have E := hide (expiry_t C (-3) (i64_of (by omega)))
  rw [show gv (-3 + 10) = 7 by decide, show ge (-3 + 10) = 0 by decide] at E
  have L1 := hide (live_t C 0 (i64_of (by omega)))
  have L2 := hide (live_t C (-9) (i64_of (by omega)))
  have L3 := hide (live_t C (-10) (i64_of (by omega)))
  have L4 := hide (live_t C 1 (i64_of (by omega)))
  rw [show lv 10 0 0 = true by decide] at L1
  rw [show lv 10 0 (-9) = true by decide] at L2
  rw [show lv 10 0 (-10) = false by decide] at L3
  rw [show lv 10 0 1 = false by decide] at L4
  have A := hide (advance_t C 4 (i64_of (by omega)))
  rw [show ck 10 0 4 = 0 by decide, show nx 10 0 4 = 4 by decide] at A
  clear C B N0
  go_wp2_with fail
  refine E.out.mono ?_
  rintro e w' ⟨rfl, rfl⟩
  go_wp2_with fail
  refine L1.out.mono ?_
  rintro e w' ⟨rfl, rfl⟩
  go_wp2_with fail
  refine L2.out.mono ?_
  rintro e w' ⟨rfl, rfl⟩
  go_wp2_with fail
  refine L3.out.mono ?_
  rintro e w' ⟨rfl, rfl⟩
  go_wp2_with fail
  refine L4.out.mono ?_
  rintro e w' ⟨rfl, rfl⟩
  go_wp2_with fail
  refine A.out.mono ?_
  rintro e w2 ⟨rfl, C, K⟩
  have HB2 := hide (HB.out.trans (K.below (by simp) (Nat.le_of_lt hz)))
  have A2 := hide (advance_t C 3 (i64_of (by omega)))
  rw [show ck 10 4 3 = 10 by decide, show nx 10 4 3 = 4 by decide] at A2
  have hz2 := C.lt
  clear C K E L1 L2 L3 L4 A HB hz
  go_wp2_with fail
  refine A2.out.mono ?_
  rintro e w3 ⟨rfl, C, K⟩
  have HB3 := hide (HB2.out.trans (K.below (by simp) (Nat.le_of_lt hz2)))
  have W := hide (now_t C)
  have Q := hide (check_t C 9223372036854775798 (i64_of (by omega)))
  rw [show ck 10 4 9223372036854775798 = 7 by decide] at Q
  clear C K A2 HB2 hz2
  go_wp2_with fail
  refine W.out.mono ?_
  rintro e w' ⟨rfl, rfl⟩
  go_wp2_with fail
  refine Q.out.mono ?_
  rintro e w' ⟨rfl, rfl⟩
  go_wp2_with fail
  go_ret
  exact ⟨rfl, HB3.out⟩
end Go.Proofs.Ytimjkkamfgafoaa
