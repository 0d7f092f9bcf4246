/- The sum of two numbers, or that it does not fit: the code's own. -/
import Derived.Test.YtgcnccfmfnifbaaW0
set_option linter.unusedVariables false
set_option linter.unusedSimpArgs false
namespace Go.Proofs.Ytgcnccfmfnifbaa
open Go.RowKit

theorem add_fit (a b : Int) : decide (a ≤ a + b) = decide (0 ≤ b) := by
  by_cases h0 : 0 ≤ b <;> simp [h0] <;> omega
theorem add_over {a b : Int} (ha : I64 a) (hb : I64 b) (h : ¬ I64 (a + b)) : decide (a ≤ wrap64 (a + b)) = !decide (0 ≤ b) := by
  unfold I64 at *; unfold wrap64
  by_cases h0 : 0 ≤ b <;> simp [h0] <;> omega
set_option maxHeartbeats 400000 in
theorem add_ok (a b : Int) (w : World) (ha : I64 a) (hb : I64 b) (h : I64 (a + b)) :
    Calls Try.prog 34 #[.int .i64 a, .int .i64 b] w fun e w' => e = .returned (.tuple #[.int .i64 (a+b), .int .i64 0]) ∧ w = w' := by
  unfold I64 at *
  have hd := add_fit a b
  by_cases h0 : 0 ≤ b
  all_goals
    simp only [h0, decide_true, decide_false] at hd
    go_enter Try.func34, Try.ntmps34
    go_wp2
    go_ret2
    exact ⟨rfl, rfl⟩
set_option maxHeartbeats 400000 in
theorem add_no (a b : Int) (w : World) (ha : I64 a) (hb : I64 b) (h : ¬ I64 (a + b)) :
    Calls Try.prog 34 #[.int .i64 a, .int .i64 b] w fun e w' => e = .returned (.tuple #[.int .i64 0, .int .i64 7]) ∧ w = w' := by
  have hd := add_over ha hb h
  clear h ha hb
  by_cases h0 : 0 ≤ b
  all_goals
    simp only [h0, decide_true, decide_false, Bool.not_true, Bool.not_false] at hd
    go_enter Try.func34, Try.ntmps34
    go_wp2
    go_ret2
    exact ⟨rfl, rfl⟩
theorem add_any (a b : Int) (w : World) (ha : I64 a) (hb : I64 b) :
    Calls Try.prog 34 #[.int .i64 a, .int .i64 b] w fun e w' => e = .returned (.tuple #[.int .i64 (gv (a + b)), .int .i64 (ge (a + b))]) ∧ w = w' := by
  by_cases h : I64 (a + b)
  · rw [gv_ok h, ge_ok h]; exact add_ok a b w ha hb h
  · rw [gv_no h, ge_no h]; exact add_no a b w ha hb h
end Go.Proofs.Ytgcnccfmfnifbaa
