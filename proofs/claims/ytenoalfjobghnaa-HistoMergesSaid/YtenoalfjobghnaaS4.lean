/- The specification's Add and Sub, and the order of wide integers. -/
import Derived.Test.YtenoalfjobghnaaS3
import Derived.ChangeKeysEq
set_option linter.unusedVariables false
set_option linter.unusedSimpArgs false
namespace Go.Proofs.Ytenoalfjobghnaa
open Go.RowKit

theorem n6_lt {c0 c1 c2 c3 c4 c5 : Nat} (h : Dig c0 c1 c2 c3 c4 c5) : n6 c0 c1 c2 c3 c4 c5 < 4294967296 ^ 6 := by
  have := nl_lt (small_six.2 h)
  rw [nl_six] at this
  exact this
theorem plus_ (z1 z2 : Int) (s r : Bool) (a0 a1 a2 a3 a4 a5 b0 b1 b2 b3 b4 b5 : Nat) (h1 : Rep z1 s a0 a1 a2 a3 a4 a5) (h2 : Rep z2 r b0 b1 b2 b3 b4 b5) (hm : z1.natAbs + z2.natAbs < 4294967296 ^ 6) (w : World) :
    Calls Try.prog 61 #[.agg #[.bool s, .int .u64 (a0 : Int), .int .u64 (a1 : Int), .int .u64 (a2 : Int), .int .u64 (a3 : Int), .int .u64 (a4 : Int), .int .u64 (a5 : Int)], .agg #[.bool r, .int .u64 (b0 : Int), .int .u64 (b1 : Int), .int .u64 (b2 : Int), .int .u64 (b3 : Int), .int .u64 (b4 : Int), .int .u64 (b5 : Int)]] w (WPost (z1 + z2) w) := by
  obtain ⟨d1, rfl⟩ := h1
  obtain ⟨d2, rfl⟩ := h2
  rw [vz_abs, vz_abs] at hm
  by_cases hs : s = r
  · subst hs
    refine (plus_same s a0 a1 a2 a3 a4 a5 b0 b1 b2 b3 b4 b5 d1 d2 hm w).mono ?_
    rintro e w' ⟨c0, c1, c2, c3, c4, c5, rfl, hd, hn, hb⟩
    exact ⟨s, c0, c1, c2, c3, c4, c5, rfl, ⟨hd, by rw [hn]; cases s <;> simp [vz] <;> omega⟩, hb⟩
  · obtain rfl : r = !s := by cases s <;> cases r <;> simp_all
    by_cases hg : n6 b0 b1 b2 b3 b4 b5 ≤ n6 a0 a1 a2 a3 a4 a5
    · refine (plus_ge s a0 a1 a2 a3 a4 a5 b0 b1 b2 b3 b4 b5 d1 d2 hg w).mono ?_
      rintro e w' ⟨c0, c1, c2, c3, c4, c5, rfl, hd, hn, hb⟩
      exact ⟨s, c0, c1, c2, c3, c4, c5, rfl, ⟨hd, by rw [hn]; cases s <;> simp [vz] <;> omega⟩, hb⟩
    · refine (plus_lt s a0 a1 a2 a3 a4 a5 b0 b1 b2 b3 b4 b5 d1 d2 (by omega) w).mono ?_
      rintro e w' ⟨c0, c1, c2, c3, c4, c5, rfl, hd, hn, hb⟩
      exact ⟨!s, c0, c1, c2, c3, c4, c5, rfl, ⟨hd, by rw [hn]; cases s <;> simp [vz] <;> omega⟩, hb⟩

theorem small_pow {a b : Nat} (ha : a ≤ 9223372036854775808) (hb : b ≤ 9223372036854775808) : a + b < 4294967296 ^ 6 := by
  have : (36893488147419103232 : Nat) < 4294967296 ^ 6 := by decide
  omega

end Go.Proofs.Ytenoalfjobghnaa
