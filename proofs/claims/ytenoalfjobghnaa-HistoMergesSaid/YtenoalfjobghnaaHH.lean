/- Lists that are compared. -/
import Derived.Test.YtenoalfjobghnaaHE
set_option linter.unusedVariables false
set_option linter.unusedSimpArgs false
namespace Go.Proofs.Ytenoalfjobghnaa
open Go.RowKit

set_option maxRecDepth 100000 in
set_option maxHeartbeats 4000000 in
theorem same_i (w : World) (n : Nat) (f : Nat → Int) (B B' : Nat) (p q : Option Addr) (c d : Nat) (h1 : w.ownsRow B 2 1 (.slice p n c) n (intsI n f)) (h2 : w.ownsRow B' 2 1 (.slice q n d) n (intsI n f)) (hl : n ≤ 65536) :
    Calls Try.prog 33 #[.slice p n c, .slice q n d] w fun e w' => e = .returned (.bool true) ∧ Kp [] w w' := by
  have H1 := hide h1
  have H2 := hide h2
  have HL := hide hl
  clear h1 h2 hl
  go_enter Try.func33, Try.ntmps33
  go_wp2_with fail
  go_loopw [5] (fun i wr => ∃ k : Nat, i = .int .i64 (k : Int) ∧ Hid (k ≤ n) ∧ Hid (∃ q, wr = w.drewN q)) (fun i _ => n - (intOf i).toNat)
  case atStart => exact ⟨0, rfl, Nat.zero_le _, 0, rfl⟩
  case round =>
    obtain ⟨k, rfl, hk, hq⟩ := hrel
    obtain ⟨qq, rfl⟩ := hq.out
    by_cases hlt : k < n
    · have dk : decide (k < n) = true := by simpa using hlt
      have ww : IntKind.i64.wrap ((k : Int) + 1) = (k : Int) + 1 := by have := HL.out; rw [IntKind.wrap_i64]; omega
      obtain ⟨g1, rfl, e1, _, _⟩ := row_cell H1.out hlt
      obtain ⟨g2, rfl, e2, _, _⟩ := row_cell H2.out hlt
      rw [intsI_get _ hlt] at e1 e2
      generalize f k = x at *
      have HK := hide hlt
      generalize hwr : w.drewN qq = wr
      have e1' : wr.cell? ⟨g1, k, none⟩ = some (.int .i64 x) := by rw [← hwr]; exact e1
      have e2' : wr.cell? ⟨g2, k, none⟩ = some (.int .i64 x) := by rw [← hwr]; exact e2
      have HW := hide hwr
      clear e1 e2 hwr
      go_wp2_with fail
      go_quiet (fail)
      go_wp2_with fail
      go_roundw
      case rel => exact ⟨k + 1, by go_num, by have := HK.out; show k + 1 ≤ n; omega, qq + nq, by rw [← HW.out, World.drewN_drewN]⟩
      case measure => have := HK.out; simp [intOf]; omega
    · have dk : decide (k < n) = false := by simp; omega
      clear hlt
      go_wp2_with fail
      go_ret
      exact ⟨rfl, Kp.drewN _ _ _⟩
end Go.Proofs.Ytenoalfjobghnaa
