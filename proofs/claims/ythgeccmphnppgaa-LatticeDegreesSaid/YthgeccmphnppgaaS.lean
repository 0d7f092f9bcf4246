/- Sides. -/
import Derived.Test.YthgeccmphnppgaaJ
set_option linter.unusedVariables false
set_option linter.unusedSimpArgs false
namespace Go.Proofs.Ythgeccmphnppgaa
open Go.RowKit
theorem sides_t (a b : Nat) (ha : a ≤ 255) (hb : b ≤ 255) (W : World) : Calls Try.prog 30 #[.int .u8 (a : Int), .int .u8 (b : Int)] W fun e w' => e = .returned (.tuple #[.int .i64 ((a % 24 + 1 : Nat) : Int), .int .i64 ((b % 24 + 1 : Nat) : Int)]) ∧ W = w' := by
  go_enter Try.func30, Try.ntmps30
  go_wp2_with fail
  go_ret2
  exact ⟨by simp, rfl⟩
set_option maxRecDepth 100000 in
set_option maxHeartbeats 4000000 in
theorem either_t (w h : Int) (wx wy d : Bool) (W : World) : Calls Try.prog 31 #[.int .i64 w, .int .i64 h, .bool wx, .bool wy, .bool d] W (GRes (gridR w h wx wy (dOf d)) W) := by
  have G1 := hide (sq_14 w h wx wy W)
  have G2 := hide (sq_18 w h wx wy W)
  cases d
  · have e : dOf false = dsq := rfl
    rw [e]
    generalize gridR w h wx wy dsq = r at *
    obtain ⟨r1, r2, r3⟩ := r
    go_enter Try.func31, Try.ntmps31
    go_wp2_with fail
    refine G1.out.mono ?_
    rintro e w1 ⟨v, rfl, rd, bw⟩
    have HR := hide rd
    have HW := hide bw
    clear rd bw
    go_wp2_with fail
    go_ret3
    exact ⟨_, rfl, HR.out, HW.out⟩
  · have e : dOf true = dtri := rfl
    rw [e]
    generalize gridR w h wx wy dtri = r at *
    obtain ⟨r1, r2, r3⟩ := r
    go_enter Try.func31, Try.ntmps31
    go_wp2_with fail
    refine G2.out.mono ?_
    rintro e w1 ⟨v, rfl, rd, bw⟩
    have HR := hide rd
    have HW := hide bw
    clear rd bw
    go_wp2_with fail
    go_ret3
    exact ⟨_, rfl, HR.out, HW.out⟩
theorem side_b (a : Nat) : 1 ≤ a % 24 + 1 ∧ a % 24 + 1 ≤ 24 := by omega
theorem sides_grid (a b : Nat) : gridP ((a % 24 + 1 : Nat) : Int) ((b % 24 + 1 : Nat) : Int) := by
  obtain ⟨h1, h2⟩ := side_b a
  obtain ⟨h3, h4⟩ := side_b b
  have := Nat.mul_le_mul h2 h4
  refine ⟨by omega, by omega, ?_⟩
  rw [← Int.natCast_mul]
  omega
end Go.Proofs.Ythgeccmphnppgaa
