/- The specification's MulDiv. -/
import Derived.Test.YtenoalfjobghnaaS11
set_option linter.unusedVariables false
set_option linter.unusedSimpArgs false
namespace Go.Proofs.Ytenoalfjobghnaa
open Go.RowKit

theorem div_rep {z : Int} {s : Bool} {a0 a1 a2 a3 a4 a5 : Nat} (h : Rep z s a0 a1 a2 a3 a4 a5) (c : Nat) (hc1 : 1 ≤ c) (hc2 : c ≤ 9223372036854775807) (w : World) :
    Calls Try.prog 52 #[.agg #[.bool s, .int .u64 (a0 : Int), .int .u64 (a1 : Int), .int .u64 (a2 : Int), .int .u64 (a3 : Int), .int .u64 (a4 : Int), .int .u64 (a5 : Int)], .int .i64 (c : Int)] w (VPost (z / (c : Int)) w) := by
  have := divide_ s a0 a1 a2 a3 a4 a5 h.1 c hc1 hc2 w
  rw [← h.2] at this
  exact this
set_option maxRecDepth 100000 in
set_option maxHeartbeats 1000000 in
theorem ref_muldiv (a b : Int) (ha : I64 a) (hb : I64 b) (c : Nat) (hc1 : 1 ≤ c) (hc2 : c ≤ 9223372036854775807) (w : World) :
    Calls Try.prog 46 #[.int .i64 a, .int .i64 b, .int .i64 (c : Int)] w (FPost (a * b / (c : Int)) w) := by
  have A := hide (from_ a ha)
  have B := hide (from_ b hb)
  have T := hide (fun s r a0 a1 a2 a3 a4 a5 b0 b1 b2 b3 b4 b5 h1 h2 => times_ a b s r a0 a1 a2 a3 a4 a5 b0 b1 b2 b3 b4 b5 h1 h2 (abs96 ha) (abs96 hb))
  have D := hide (fun (s : Bool) (a0 a1 a2 a3 a4 a5 : Nat) (h : Rep (a * b) s a0 a1 a2 a3 a4 a5) => div_rep h c hc1 hc2)
  have hc0 : decide ((c : Int) < 1) = false := by simp; omega
  have hc3 : (1 : Int) ≤ c := by omega
  generalize hz : a * b / (c : Int) = Z at *
  clear ha hb hc1 hc2 hz
  go_enter Try.func46, Try.ntmps46
  go_wp2_with fail
  refine (A.out _).mono ?_
  rintro e w1 ⟨s, x0, x1, x2, x3, x4, x5, rfl, hx, b1⟩
  have HX := hide hx
  have BB1 := hide b1
  clear hx b1
  go_wp2_with fail
  refine (B.out _).mono ?_
  rintro e w2 ⟨r, y0, y1, y2, y3, y4, y5, rfl, hy, b2⟩
  have HY := hide hy
  have BB2 := hide (BB1.out.trans (b2.mono BB1.out.size))
  clear hy b2
  go_wp2_with fail
  refine (T.out s r x0 x1 x2 x3 x4 x5 y0 y1 y2 y3 y4 y5 HX.out HY.out _).mono ?_
  rintro e w3 ⟨q, z0, z1, z2, z3, z4, z5, rfl, hz, b3⟩
  have HZ := hide hz
  have BB3 := hide (BB2.out.trans (b3.mono BB2.out.size))
  clear hz b3
  go_wp2_with fail
  refine (D.out q z0 z1 z2 z3 z4 z5 HZ.out _).mono ?_
  rintro e w4 ⟨p, u0, u1, u2, u3, u4, u5, R, rfl, hu, b4⟩
  have HU := hide hu
  have BB4 := hide (BB3.out.trans (b4.mono BB3.out.size))
  have BB5 := hide (BB4.out.alloc BB4.out.size (.cells #[.bool p, .int .u64 (u0 : Int), .int .u64 (u1 : Int), .int .u64 (u2 : Int), .int .u64 (u3 : Int), .int .u64 (u4 : Int), .int .u64 (u5 : Int)] 86))
  clear hu b4
  go_wp2_with fail
  refine (fit Z p u0 u1 u2 u3 u4 u5 HU.out _).mono ?_
  rintro e w5 ⟨⟨h, rfl⟩ | ⟨h, rfl⟩, bz⟩
  · have H := hide h
    have bd := BB5.out.trans (bz.mono BB5.out.size)
    clear h bz
    go_wp2_with fail
    go_ret2
    exact ⟨.inl ⟨H.out, rfl⟩, bd⟩
  · have H := hide h
    have bd := BB5.out.trans (bz.mono BB5.out.size)
    clear h bz
    go_wp2_with fail
    go_ret2
    exact ⟨.inr ⟨H.out, rfl⟩, bd⟩
theorem ref_arg (a b c : Int) (h : c < 1) (w : World) : Calls Try.prog 46 #[.int .i64 a, .int .i64 b, .int .i64 c] w fun e w' => e = .returned (.tuple #[.int .i64 0, .int .i64 2]) ∧ Below w.heap.size w w' := by
  have hc0 : decide (c < 1) = true := by simp; omega
  go_enter Try.func46, Try.ntmps46
  go_wp2_with fail
  go_ret2
  exact ⟨rfl, Below.refl _ _⟩
end Go.Proofs.Ytenoalfjobghnaa
