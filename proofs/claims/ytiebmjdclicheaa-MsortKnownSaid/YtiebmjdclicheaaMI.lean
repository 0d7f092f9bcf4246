/- The closure of Perm. -/
import Derived.Test.YtiebmjdclicheaaMH
import Derived.StillTailTactics
set_option linter.unusedVariables false
set_option linter.unusedSimpArgs false
namespace Go.Proofs.Ytiebmjdclicheaa
open Go.RowKit

set_option maxRecDepth 100000 in
set_option maxHeartbeats 4000000 in
theorem perm1_t (a b : R4) (k : Int) {W : World} {lb kb bp op n c : Nat} (I J : Nat) (hI : I < n) (hJ : J < n)
    (hl : W.heap[lb]? = some (.cells #[.slice (some ⟨bp, op, none⟩) n c] 31 (0, 0))) (hk : W.heap[kb]? = some (.cells #[.int .i64 k] 25 (0, 0)))
    (ha : ∀ W', Kp [] W W' → At4 W' bp (op + I * 4) a) (hb : ∀ W', Kp [] W W' → At4 W' bp (op + J * 4) b) :
    Calls Try.prog 36 (#[.int .i64 (I : Int), .int .i64 (J : Int)] ++ #[.pointer (some ⟨lb, 0, none⟩), .pointer (some ⟨kb, 0, none⟩)]) W fun e W' => e = .returned (.bool (bef k a b)) ∧ Kp [] W W' := by
  have CQ := hide (fun w1 => compare_t a b k w1)
  have bI : (I : Int) < (n : Int) := by omega
  have bJ : (J : Int) < (n : Int) := by omega
  obtain ⟨w2, hw2⟩ : ∃ w2 : World, w2 = W.drew := ⟨_, rfl⟩
  have k0 : Kp [] W w2 := by rw [hw2]; exact Kp.drewN [] W 1
  have q1 : w2.cell? ⟨lb, 0, none⟩ = some (.slice (some ⟨bp, op, none⟩) n c) := by simp [cell_of_blk (k0.blk hl (by simp))]
  have q2 : w2.cell? ⟨kb, 0, none⟩ = some (.int .i64 k) := by simp [cell_of_blk (k0.blk hk (by simp))]
  obtain ⟨a1, a2, a3, a4⟩ := ha _ k0
  obtain ⟨b1, b2, b3, b4⟩ := hb _ k0
  have K0 := hide k0
  have hw2' : ({ W with drawn := W.drawn + 1 } : World) = w2 := hw2.symm
  clear ha hb hl hk hI hJ k0 hw2
  unfold R4.val at CQ
  unfold bef
  generalize cmpF k a b = z at *
  go_enter Try.func36, Try.ntmps36
  go_wp2_with fail
  refine wp_region_still_tail 9 (by kernel_rfl) (by kernel_rfl) ?_
  simp only [List.take_succ_cons, List.take_zero, List.drop_succ_cons, List.drop_zero]
  rw [hw2']
  clear hw2'
  repeat still_step
  refine wpStill_nil ?_
  go_wp2_with fail
  refine (CQ.out _).mono ?_
  rintro e w3 ⟨rfl, k1⟩
  have K1 := hide (K0.out.trans0 k1)
  clear k1 q1 q2 a1 a2 a3 a4 b1 b2 b3 b4
  go_wp2_with fail
  go_ret
  exact ⟨rfl, K1.out⟩
end Go.Proofs.Ytiebmjdclicheaa
