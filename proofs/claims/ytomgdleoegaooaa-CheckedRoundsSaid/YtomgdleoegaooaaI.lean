import Derived.Test.YtomgdleoegaooaaH
set_option linter.unusedVariables false
set_option linter.unusedSimpArgs false
namespace Go.Proofs.Ytomgdleoegaooaa
open Go.RowKit

/-- the quotient's two halves fit into one word -/
theorem joinq {Q1 Q0 : Nat} (h1 : Q1 < 4294967296) (h0 : Q0 < 4294967296) : IntKind.u64.wrap (IntKind.u64.wrap ((Q1 : Int) * 4294967296) + (Q0 : Int)) = ((Q1 * 4294967296 + Q0 : Nat) : Int) := by
  simp only [IntKind.wrap_u64]; omega

theorem div64 (hi lo y : Nat) (hy : y < 18446744073709551616) (hh : hi < y) (hl : lo < 18446744073709551616) (h0 : 1 ≤ hi) (w : World) :
    Calls Try.prog 51 #[.int .u64 hi, .int .u64 lo, .int .u64 y] w fun e w' => e = .returned (.tuple #[.int .u64 (((hi * 18446744073709551616 + lo) / y : Nat) : Int), .int .u64 (((hi * 18446744073709551616 + lo) % y : Nat) : Int)]) ∧ w = w' := by
  obtain ⟨s, hs, hlead, hv1, hv2⟩ := KD.lead y (by omega) hy
  obtain ⟨k1, k2, k3, k4, k5⟩ := KD.upper hi lo y s hs hl hh hv2
  have hx : lo * 2 ^ s % 18446744073709551616 < 18446744073709551616 := Nat.mod_lt _ (by decide)
  have hvp : 0 < y * 2 ^ s := by omega
  obtain ⟨w1, w2⟩ := KD.whole (u := hi * 2 ^ s + lo / 2 ^ (64 - s)) (x := lo * 2 ^ s % 18446744073709551616) (v := y * 2 ^ s) hvp rfl rfl rfl
  obtain ⟨s1, s2⟩ := KD.scale (n := hi * 18446744073709551616 + lo) (y := y) (k := 2 ^ s) (Nat.two_pow_pos s)
  rw [k5] at w1 w2
  rw [s1] at w1
  have hR1 : ((hi * 2 ^ s + lo / 2 ^ (64 - s)) * 4294967296 + lo * 2 ^ s % 18446744073709551616 / 4294967296) % (y * 2 ^ s) < y * 2 ^ s := Nat.mod_lt _ hvp
  have t1b : lo * 2 ^ s % 18446744073709551616 / 4294967296 < 4294967296 := by omega
  have t0b : lo * 2 ^ s % 18446744073709551616 % 4294967296 < 4294967296 := Nat.mod_lt _ (by decide)
  have q1b := KD.quo_lt (u := hi * 2 ^ s + lo / 2 ^ (64 - s)) (t := lo * 2 ^ s % 18446744073709551616 / 4294967296) k4 t1b
  have q0b := KD.quo_lt hR1 t0b
  have hn1 : 2147483648 ≤ y * 2 ^ s / 4294967296 := by omega
  have hub : hi * 2 ^ s + lo / 2 ^ (64 - s) < 18446744073709551616 := Nat.lt_trans k4 hv2
  refine (div64_core hi lo y s (y * 2 ^ s) (hi * 2 ^ s + lo / 2 ^ (64 - s)) (lo * 2 ^ s % 18446744073709551616) (y * 2 ^ s / 4294967296) (y * 2 ^ s % 4294967296) (lo * 2 ^ s % 18446744073709551616 / 4294967296) (lo * 2 ^ s % 18446744073709551616 % 4294967296) _ _ _ _ _ _ _ _
    (((hi * 18446744073709551616 + lo) / y : Nat)) (((hi * 18446744073709551616 + lo) % y : Nat)) w (fun w => ?_) (by omega) (by omega) hs (by rw [shl64, Nat.mod_eq_of_lt hv2]) hv1 hv2 (or64 k1 k2 k3) (shl64 lo s) (and32 hv2) (and32 hx) (by omega) (by omega) (by omega)
    (wrapq _ _ hub) (wraprest hub) ⟨rfl, rfl, k4, t1b, hv1, hv2, rfl, rfl, rfl⟩ ⟨rfl, rfl, hR1, t0b, hv1, hv2, rfl, rfl, rfl⟩
    (wraprest2 hv2 hvp) (wrapq _ _ (Nat.lt_trans hR1 hv2)) (wraprest (Nat.lt_trans hR1 hv2)) (by rw [joinq q1b q0b, w1]) (wraprest2 hv2 hvp) (by rw [shr64, w2, s2])).mono fun e w' h => h
  refine (Try.bits_LeadingZeros64 (y : Int) w (by omega) (by omega)).mono ?_
  rintro e w' ⟨rfl, rfl⟩
  rw [Int.toNat_natCast, hlead]
  exact ⟨rfl, rfl⟩

set_option maxRecDepth 100000 in
set_option maxHeartbeats 1000000 in
theorem div64_small (lo y : Nat) (hl : lo < 18446744073709551616) (h0 : 1 ≤ y) (w : World) :
    Calls Try.prog 51 #[.int .u64 0, .int .u64 lo, .int .u64 y] w fun e w' => e = .returned (.tuple #[.int .u64 ((lo / y : Nat) : Int), .int .u64 ((lo % y : Nat) : Int)]) ∧ Below w.heap.size w w' := by
  have hyi : (1 : Int) ≤ y := by omega
  have b0 : ((y : Int) == 0) = false := by simp; omega
  have q0 : ((lo / y : Nat) : Int) ≤ lo := by have := Nat.div_le_self lo y; omega
  have q1 : 0 ≤ ((lo / y : Nat) : Int) := Int.natCast_nonneg _
  rw [Int.natCast_ediv] at q0 q1
  have r0 : ((lo % y : Nat) : Int) ≤ lo := by have := Nat.mod_le lo y; omega
  have r1 : 0 ≤ ((lo % y : Nat) : Int) := Int.natCast_nonneg _
  rw [Int.natCast_emod] at r0 r1
  have e2 := hide (Int.natCast_emod lo y)
  have e1 := hide (Int.natCast_ediv lo y)
  go_enter Try.func51, Try.ntmps51
  go_wp2_with fail
  go_quiet (fail)
  go_wp2_with fail
  go_ret2
  exact ⟨ret2 e1.out.symm e2.out.symm, below_drewN (Below.refl _ _) _⟩

theorem qpos {p : Int} (hp : W128 p) (h0 : 0 ≤ p) : whi p = ((p / 18446744073709551616).toNat : Int) ∧ wlo p = ((p % 18446744073709551616).toNat : Int) ∧ (p / 18446744073709551616).toNat * 18446744073709551616 + (p % 18446744073709551616).toNat = p.toNat ∧ (p % 18446744073709551616).toNat < 18446744073709551616 := by
  unfold W128 at hp; unfold whi wlo; omega

theorem div_any (m c : Int) (hm : W128 m) (h0 : 0 ≤ m) (h1 : 1 ≤ c) (hc : I64 c) (hlt : whi m < c) (w : World) :
    Calls Try.prog 51 #[.int .u64 (whi m), .int .u64 (wlo m), .int .u64 c] w fun e w' => e = .returned (.tuple #[.int .u64 (m / c), .int .u64 (m % c)]) ∧ Below w.heap.size w w' := by
  obtain ⟨e1, e2, e3, e4⟩ := qpos hm h0
  obtain ⟨k, rfl⟩ := Int.eq_ofNat_of_zero_le (show 0 ≤ c by omega)
  have em : m = (m.toNat : Int) := by omega
  have f1 : m / (k : Int) = ((m.toNat / k : Nat) : Int) := by rw [Int.natCast_ediv, ← em]
  have f2 : m % (k : Int) = ((m.toNat % k : Nat) : Int) := by rw [Int.natCast_emod, ← em]
  have hk : k < 18446744073709551616 := by unfold I64 at hc; omega
  rw [f1, f2, e1, e2, ← e3]
  rw [e1] at hlt
  generalize (m / 18446744073709551616).toNat = a at *
  generalize (m % 18446744073709551616).toNat = b at *
  by_cases ha : 1 ≤ a
  · refine (div64 a b k hk (by omega) e4 ha w).mono ?_
    rintro e w' ⟨rfl, rfl⟩
    exact ⟨rfl, Below.refl _ _⟩
  · obtain rfl : a = 0 := by omega
    have z : 0 * 18446744073709551616 + b = b := by omega
    rw [z]
    exact div64_small b k e4 (by omega) w

end Go.Proofs.Ytomgdleoegaooaa
