/- No sets: nil, or never made; equal rows. -/
import Derived.Test.YtfjmnidenoojhaaLb
set_option linter.unusedVariables false
set_option linter.unusedSimpArgs false
namespace Go.Proofs.Ytfjmnidenoojhaa
open Go.RowKit

section
variable (p : Option Addr) (w : World) (h : bad w p)
include h
theorem union_f (x y : Int) : Calls Try.prog 15 #[.pointer p, .int .i64 x, .int .i64 y] w fun e w' => e = .returned (.tuple #[.bool false, .int .i64 1]) ∧ w = w' := by
  have v0 := valid_f p w h
  go_enter Try.func15, Try.ntmps15
  go_wp2_with (go_at_call 36; refine v0.mono ?_; rintro e w' ⟨rfl, rfl⟩)
  go_ret2
  exact ⟨rfl, rfl⟩
theorem undo_f (x : Int) : Calls Try.prog 17 #[.pointer p, .int .i64 x] w fun e w' => e = .returned (.int .i64 1) ∧ w = w' := by
  have v0 := valid_f p w h
  go_enter Try.func17, Try.ntmps17
  go_wp2_with (go_at_call 36; refine v0.mono ?_; rintro e w' ⟨rfl, rfl⟩)
  go_ret
  exact ⟨rfl, rfl⟩
theorem same_f (x y : Int) : Calls Try.prog 29 #[.pointer p, .int .i64 x, .int .i64 y] w fun e w' => e = .returned (.bool false) ∧ w = w' := by
  have v0 := has_f p x w h
  go_enter Try.func29, Try.ntmps29
  go_wp2_with (go_at_call 37; refine v0.mono ?_; rintro e w' ⟨rfl, rfl⟩)
  go_ret
  exact ⟨rfl, rfl⟩
theorem size_f (x : Int) : Calls Try.prog 30 #[.pointer p, .int .i64 x] w fun e w' => e = .returned (.int .i64 0) ∧ w = w' := by
  have v0 := has_f p x w h
  go_enter Try.func30, Try.ntmps30
  go_wp2_with (go_at_call 37; refine v0.mono ?_; rintro e w' ⟨rfl, rfl⟩)
  go_ret
  exact ⟨rfl, rfl⟩
theorem count_f : Calls Try.prog 26 #[.pointer p] w fun e w' => e = .returned (.int .i64 0) ∧ w = w' := by
  have v0 := valid_f p w h
  go_enter Try.func26, Try.ntmps26
  go_wp2_with (go_at_call 36; refine v0.mono ?_; rintro e w' ⟨rfl, rfl⟩)
  go_ret
  exact ⟨rfl, rfl⟩
theorem mark_f : Calls Try.prog 24 #[.pointer p] w fun e w' => e = .returned (.int .i64 0) ∧ w = w' := by
  have v0 := valid_f p w h
  go_enter Try.func24, Try.ntmps24
  go_wp2_with (go_at_call 36; refine v0.mono ?_; rintro e w' ⟨rfl, rfl⟩)
  go_ret
  exact ⟨rfl, rfl⟩
theorem labels_f : Calls Try.prog 25 #[.pointer p] w fun e w' => e = .returned (.slice none 0 0) ∧ w = w' := by
  have v0 := valid_f p w h
  go_enter Try.func25, Try.ntmps25
  go_wp2_with (go_at_call 36; refine v0.mono ?_; rintro e w' ⟨rfl, rfl⟩)
  go_ret
  exact ⟨rfl, rfl⟩
theorem copy_f : Calls Try.prog 21 #[.pointer p] w fun e w' => e = .returned (.pointer none) ∧ w = w' := by
  have v0 := valid_f p w h
  go_enter Try.func21, Try.ntmps21
  go_wp2_with (go_at_call 36; refine v0.mono ?_; rintro e w' ⟨rfl, rfl⟩)
  go_ret
  exact ⟨rfl, rfl⟩
end
set_option maxRecDepth 100000 in
set_option maxHeartbeats 4000000 in
theorem same_rows (w : World) (n : Nat) (f : Nat → Nat) (B B' : Nat) (p q : Option Addr) (c d : Nat) (h1 : w.ownsRow B 3 1 (.slice p n c) n (intsF n f)) (h2 : w.ownsRow B' 3 1 (.slice q n d) n (intsF n f)) (hl : n ≤ 65536) :
    Calls Try.prog 28 #[.slice p n c, .slice q n d] w fun e w' => e = .returned (.bool true) ∧ Kp [] w w' := by
  have H1 := hide h1
  have H2 := hide h2
  have HL := hide hl
  clear h1 h2 hl
  go_enter Try.func28, Try.ntmps28
  go_wp2_with fail
  go_loopw [5] (fun i wr => ∃ k : Nat, i = .int .i64 (k : Int) ∧ Hid (k ≤ n) ∧ Hid (∃ q, wr = w.drewN q)) (fun i _ => n - (intOf i).toNat)
  case atStart => exact ⟨0, rfl, Nat.zero_le _, 0, rfl⟩
  case round =>
    obtain ⟨k, rfl, hk, hq⟩ := hrel
    obtain ⟨qq, rfl⟩ := hq.out
    by_cases hlt : k < n
    · have dk : decide (k < n) = true := by simpa using hlt
      have ww : IntKind.i64.wrap ((k : Int) + 1) = (k : Int) + 1 := by have := HL.out; rw [IntKind.wrap_i64]; omega
      obtain ⟨g1, rfl, e1, _, _⟩ := row_cell H1.out hlt
      obtain ⟨g2, rfl, e2, _, _⟩ := row_cell H2.out hlt
      rw [intsF_get _ hlt] at e1 e2
      generalize f k = x at *
      have HK := hide hlt
      generalize hwr : w.drewN qq = wr
      have e1' : wr.cell? ⟨g1, k, none⟩ = some (.int .i64 (x : Int)) := by rw [← hwr]; exact e1
      have e2' : wr.cell? ⟨g2, k, none⟩ = some (.int .i64 (x : Int)) := by rw [← hwr]; exact e2
      have HW := hide hwr
      clear e1 e2 hwr
      go_wp2_with fail
      go_quiet (fail)
      go_wp2_with fail
      go_roundw
      case rel => exact ⟨k + 1, by go_num, by have := HK.out; show k + 1 ≤ n; omega, qq + nq, by rw [← HW.out, World.drewN_drewN]⟩
      case measure => have := HK.out; simp [intOf]; omega
    · have dk : decide (k < n) = false := by simp; omega
      clear hlt
      go_wp2_with fail
      go_ret
      exact ⟨rfl, Kp.drewN _ _ _⟩
end Go.Proofs.Ytfjmnidenoojhaa
