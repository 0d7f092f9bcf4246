/- The law's example. -/
import Derived.Test.YtiebmjdclicheaaMH
set_option linter.unusedVariables false
set_option linter.unusedSimpArgs false
namespace Go.Proofs.Ytiebmjdclicheaa
open Go.RowKit

def ex4 : List R4 := [⟨1, 2, 5, 0⟩, ⟨3, 4, 2, 1⟩, ⟨5, 6, 5, 2⟩, ⟨7, 8, -1, 3⟩]
theorem ex_inv : (srt (bef 1) 4 ex4).2 = 4 := by decide
theorem ex_perm : (srt (fun i j => bef 1 (ex4.getD i.toNat ⟨0, 0, 0, 0⟩) (ex4.getD j.toNat ⟨0, 0, 0, 0⟩)) 4 [(0 : Int), 1, 2, 3]).1 = [3, 1, 0, 2] := by decide
theorem lit4 (w : World) : (Instr.buildSlice 31 4 #[(0, .agg #[.int .u64 1, .int .u64 2, .int .i64 5, .int .i64 0]), (1, .agg #[.int .u64 3, .int .u64 4, .int .i64 2, .int .i64 1]), (2, .agg #[.int .u64 5, .int .u64 6, .int .i64 5, .int .i64 2]), (3, .agg #[.int .u64 7, .int .u64 8, .int .i64 (-1), .int .i64 3])]).run Try.prog w = .ok (.slice (some ⟨w.heap.size, 0, none⟩) 4 4) (w.alloc (.cells #[.int .u64 1, .int .u64 2, .int .i64 5, .int .i64 0, .int .u64 3, .int .u64 4, .int .i64 2, .int .i64 1, .int .u64 5, .int .u64 6, .int .i64 5, .int .i64 2, .int .u64 7, .int .u64 8, .int .i64 (-1), .int .i64 3] 24)) := by kernel_rfl
theorem example_t (w : World) : Calls Try.prog 28 #[] w fun e w' => e = .returned (.slice (some ⟨w.heap.size, 0, none⟩) 4 4) ∧ w' = w.alloc (.cells #[.int .u64 1, .int .u64 2, .int .i64 5, .int .i64 0, .int .u64 3, .int .u64 4, .int .i64 2, .int .i64 1, .int .u64 5, .int .u64 6, .int .i64 5, .int .i64 2, .int .u64 7, .int .u64 8, .int .i64 (-1), .int .i64 3] 24) := by
  have m := lit4
  go_enter Try.func28, Try.ntmps28
  go_wp2_with fail
  go_ret
  exact ⟨rfl, rfl⟩
theorem ex_read (w : World) : RdR (w.alloc (.cells #[.int .u64 1, .int .u64 2, .int .i64 5, .int .i64 0, .int .u64 3, .int .u64 4, .int .i64 2, .int .i64 1, .int .u64 5, .int .u64 6, .int .i64 5, .int .i64 2, .int .u64 7, .int .u64 8, .int .i64 (-1), .int .i64 3] 24)) (some ⟨w.heap.size, 0, none⟩) ex4 := by
  refine Or.inr ⟨w.heap.size, 0, rfl, by simp, ?_⟩
  have B := heap_alloc_new w (.cells #[.int .u64 1, .int .u64 2, .int .i64 5, .int .i64 0, .int .u64 3, .int .u64 4, .int .i64 2, .int .i64 1, .int .u64 5, .int .u64 6, .int .i64 5, .int .i64 2, .int .u64 7, .int .u64 8, .int .i64 (-1), .int .i64 3] 24)
  intro i x hx
  match i, hx with
  | 0, hx => cases hx; exact ⟨by simp [cell_of_blk B], by simp [cell_of_blk B], by simp [cell_of_blk B], by simp [cell_of_blk B]⟩
  | 1, hx => cases hx; exact ⟨by simp [cell_of_blk B], by simp [cell_of_blk B], by simp [cell_of_blk B], by simp [cell_of_blk B]⟩
  | 2, hx => cases hx; exact ⟨by simp [cell_of_blk B], by simp [cell_of_blk B], by simp [cell_of_blk B], by simp [cell_of_blk B]⟩
  | 3, hx => cases hx; exact ⟨by simp [cell_of_blk B], by simp [cell_of_blk B], by simp [cell_of_blk B], by simp [cell_of_blk B]⟩
theorem ex_invs {w W : World} {b : Nat} (h : RdR W (some ⟨b, 0, none⟩) ex4) : Calls Try.prog 25 #[.slice (some ⟨b, 0, none⟩) 4 4, .int .i64 1] W fun e w' => e = .returned (.tuple #[.int .i64 4, .int .i64 0]) ∧ Kp [] W w' :=
  inv_t (l := ex4) (k := 1) (c := 4) (Or.inl rfl) (by decide) ⟨by decide, by unfold maxLen; decide⟩ h
end Go.Proofs.Ytiebmjdclicheaa
