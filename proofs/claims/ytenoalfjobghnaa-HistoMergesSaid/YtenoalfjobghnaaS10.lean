/- The specification's bit: one bit of a magnitude; the arithmetic of its long division. -/
import Derived.Test.YtenoalfjobghnaaS5
import Derived.Deep.RegionHeld3
import Derived.Deep.RegionLaw
set_option linter.unusedVariables false
set_option linter.unusedSimpArgs false
namespace Go.Proofs.Ytenoalfjobghnaa
open Go.RowKit

theorem bit_eq {l : List Nat} (sl : small l) (hl : l.length = 6) {i : Nat} (hi : i < 192) : (l.getD (i / 32) 0 / 2 ^ (i % 32)) % 2 = nl l / 2 ^ i % 2 := by
  have hj : i / 32 < l.length := by omega
  have hr : i % 32 < 32 := Nat.mod_lt _ (by decide)
  have hs := nl_split hj
  have hlow : nl (l.take (i / 32)) < 4294967296 ^ (i / 32) := by
    have := nl_lt (l := l.take (i / 32)) (fun d hd => sl d (List.mem_of_mem_take hd))
    rwa [List.length_take, Nat.min_eq_left (by omega)] at this
  have e32 : (4294967296 : Nat) = 2 ^ 32 := by decide
  have hp : 2 ^ i = 4294967296 ^ (i / 32) * 2 ^ (i % 32) := by
    rw [e32, ← Nat.pow_mul, ← Nat.pow_add]; congr 1; omega
  have hB : 4294967296 = 2 ^ (i % 32) * (2 * 2 ^ (31 - i % 32)) := by
    rw [e32, ← Nat.pow_succ', ← Nat.pow_add]; congr 1; omega
  rw [hp, ← Nat.div_div_eq_div_mul, hs]
  rw [Nat.add_mul_div_left _ _ (Nat.pow_pos (by decide)), Nat.div_eq_of_lt hlow, Nat.zero_add]
  generalize nl (l.drop (i / 32 + 1)) = H
  generalize l.getD (i / 32) 0 = d
  have e : d + 4294967296 * H = d + 2 ^ (i % 32) * (2 * (2 ^ (31 - i % 32) * H)) := by
    have : 4294967296 * H = 2 ^ (i % 32) * (2 * 2 ^ (31 - i % 32)) * H := congrArg (· * H) hB
    rw [this, Nat.mul_assoc, Nat.mul_assoc]
  rw [e, Nat.add_mul_div_left _ _ (Nat.two_pow_pos _), Nat.add_mul_mod_self_left]

set_option maxRecDepth 100000 in
set_option maxHeartbeats 1000000 in
theorem bit_ (a0 a1 a2 a3 a4 a5 : Nat) (ha : Dig a0 a1 a2 a3 a4 a5) (i : Nat) (hi : i < 192) (w : World) :
    Calls Try.prog 59 #[.agg #[.int .u64 (a0 : Int), .int .u64 (a1 : Int), .int .u64 (a2 : Int), .int .u64 (a3 : Int), .int .u64 (a4 : Int), .int .u64 (a5 : Int)], .int .i64 (i : Int)] w fun e w' => e = .returned (.int .u64 ((n6 a0 a1 a2 a3 a4 a5 / 2 ^ i % 2 : Nat) : Int)) ∧ Below w.heap.size w w' := by
  have E := bit_eq (l := [a0, a1, a2, a3, a4, a5]) (small_six.2 ha) rfl hi
  rw [nl_six] at E
  have hA := Arr.new w a0 a1 a2 a3 a4 a5 84
  have bel : Below w.heap.size w (w.alloc (.cells #[.int .u64 (a0 : Int), .int .u64 (a1 : Int), .int .u64 (a2 : Int), .int .u64 (a3 : Int), .int .u64 (a4 : Int), .int .u64 (a5 : Int)] 84)) := (Below.refl _ _).alloc (Nat.le_refl _) _
  have BL := hide bel
  have sx := small_getD (small_six.2 ha) (i / 32)
  have hj6 : i / 32 < 6 := by omega
  have hr32 : i % 32 < 32 := Nat.mod_lt _ (by decide)
  have q1 : (i : Int) / 32 = ((i / 32 : Nat) : Int) := by omega
  have q2 : (i : Int) % 32 = ((i % 32 : Nat) : Int) := by omega
  have hc := hA.cell (i / 32) (by simpa using hj6)
  rw [Nat.zero_add] at hc
  generalize List.getD [a0, a1, a2, a3, a4, a5] (i / 32) 0 = x at *
  generalize n6 a0 a1 a2 a3 a4 a5 / 2 ^ i % 2 = R at *
  generalize i / 32 = j at *
  generalize i % 32 = r at *
  have E := hide E
  have hi0 : (0 : Int) ≤ i := by omega
  have hj0 : (j : Int) < 6 := by omega
  have R32 := hide hr32
  clear ha hA bel hi hj6 hr32
  go_enter Try.func59, Try.ntmps59
  go_wp2_with fail
  go_loop [5, 6] (fun p k => ∃ m : Nat, m ≤ r ∧ k = .int .i64 m ∧ p = .int .u64 ((x / 2 ^ m : Nat) : Int)) (fun _ k => r - (intOf k).toNat)
  case atStart => exact ⟨0, Nat.zero_le _, rfl, by simp⟩
  case round =>
    obtain ⟨m, hm, rfl, rfl⟩ := hrel
    by_cases hlt : m < r
    · have hs : x / 2 ^ m / 2 = x / 2 ^ (m + 1) := by rw [Nat.div_div_eq_div_mul, Nat.pow_succ]
      have hx : x / 2 ^ m < 4294967296 := Nat.lt_of_le_of_lt (Nat.div_le_self _ _) sx
      have HS := hide hs
      have hm32 : m < 32 := by have := R32.out; omega
      clear hs
      generalize x / 2 ^ m = y at *
      go_wp2_with fail
      go_round
      case rel => exact ⟨m + 1, by omega, by go_num, congrArg (Value.int .u64) (by rw [← HS.out]; omega)⟩
      case measure => simp only [intOf]; omega
    · have hme : m = r := by omega
      subst hme
      have e2 : ((x / 2 ^ m : Nat) : Int) % 2 = (R : Int) := by rw [← E.out]; omega
      clear E
      generalize x / 2 ^ m = y at *
      go_wp2_with fail
      go_ret
      exact ⟨rfl, BL.out⟩

/-- what the division has reckoned of the bits from place m on -/
def DI (M c m rem o0 o1 o2 o3 o4 o5 : Nat) : Prop := Dig o0 o1 o2 o3 o4 o5 ∧ M / 2 ^ m = n6 o0 o1 o2 o3 o4 o5 * c + rem ∧ rem < c
theorem DI.start {M c : Nat} (hM : M < 4294967296 ^ 6) (hc : 1 ≤ c) : DI M c 192 0 0 0 0 0 0 0 := by
  refine ⟨⟨by decide, by decide, by decide, by decide, by decide, by decide⟩, ?_, hc⟩
  have : n6 0 0 0 0 0 0 = 0 := by decide
  rw [this, Nat.zero_mul, Nat.add_zero, Nat.div_eq_of_lt]
  exact Nat.lt_of_lt_of_le hM (by decide)
theorem DI.twice {M c j rem o0 o1 o2 o3 o4 o5 : Nat} (h : DI M c (j + 1) rem o0 o1 o2 o3 o4 o5) (hM : M < 4294967296 ^ 6) : n6 o0 o1 o2 o3 o4 o5 + n6 o0 o1 o2 o3 o4 o5 < 4294967296 ^ 6 := by
  obtain ⟨_, e, hr⟩ := h
  have h1 : n6 o0 o1 o2 o3 o4 o5 * 1 ≤ n6 o0 o1 o2 o3 o4 o5 * c := Nat.mul_le_mul_left _ (by omega)
  have h2 : M / 2 ^ (j + 1) ≤ M / 2 := Nat.div_le_div_left (by rw [Nat.pow_succ]; have := Nat.two_pow_pos j; omega) (by decide)
  omega
theorem DI.bit {M c j rem o0 o1 o2 o3 o4 o5 : Nat} (h : DI M c (j + 1) rem o0 o1 o2 o3 o4 o5) : M / 2 ^ j = (n6 o0 o1 o2 o3 o4 o5 + n6 o0 o1 o2 o3 o4 o5) * c + (2 * rem + M / 2 ^ j % 2) := by
  obtain ⟨_, e, hr⟩ := h
  have e2 : M / 2 ^ (j + 1) = M / 2 ^ j / 2 := by rw [Nat.div_div_eq_div_mul, Nat.pow_succ]
  rw [e2] at e
  rw [Nat.add_mul]
  omega
theorem DI.low {M c j rem o0 o1 o2 o3 o4 o5 g0 g1 g2 g3 g4 g5 : Nat} (h : DI M c (j + 1) rem o0 o1 o2 o3 o4 o5) (hg : Dig g0 g1 g2 g3 g4 g5) (eg : n6 g0 g1 g2 g3 g4 g5 = n6 o0 o1 o2 o3 o4 o5 + n6 o0 o1 o2 o3 o4 o5) (hlt : 2 * rem + M / 2 ^ j % 2 < c) : DI M c j (2 * rem + M / 2 ^ j % 2) g0 g1 g2 g3 g4 g5 :=
  ⟨hg, by rw [eg]; exact h.bit, hlt⟩
theorem dbl_even {o0 o1 o2 o3 o4 o5 g0 g1 g2 g3 g4 g5 : Nat} (hg : Dig g0 g1 g2 g3 g4 g5) (eg : n6 g0 g1 g2 g3 g4 g5 = n6 o0 o1 o2 o3 o4 o5 + n6 o0 o1 o2 o3 o4 o5) : g0 + 1 < 4294967296 := by
  obtain ⟨h0, _⟩ := hg
  unfold n6 at eg
  omega
theorem DI.high {M c j rem o0 o1 o2 o3 o4 o5 g0 g1 g2 g3 g4 g5 u : Nat} (h : DI M c (j + 1) rem o0 o1 o2 o3 o4 o5) (hg : Dig g0 g1 g2 g3 g4 g5) (eg : n6 g0 g1 g2 g3 g4 g5 = n6 o0 o1 o2 o3 o4 o5 + n6 o0 o1 o2 o3 o4 o5) (hge : 2 * rem + M / 2 ^ j % 2 = c + u) : DI M c j u (g0 + 1) g1 g2 g3 g4 g5 := by
  have hev := dbl_even hg eg
  have hb := h.bit
  obtain ⟨_, _, hr⟩ := h
  refine ⟨⟨hev, hg.h1, hg.h2, hg.h3, hg.h4, hg.h5⟩, ?_, by omega⟩
  have e1 : n6 (g0 + 1) g1 g2 g3 g4 g5 = n6 g0 g1 g2 g3 g4 g5 + 1 := by unfold n6; omega
  rw [hb, e1, eg, hge, Nat.add_mul _ 1, Nat.one_mul]
  omega
theorem DI.done {M c rem o0 o1 o2 o3 o4 o5 : Nat} (h : DI M c 0 rem o0 o1 o2 o3 o4 o5) : M = n6 o0 o1 o2 o3 o4 o5 * c + rem ∧ rem < c := by
  obtain ⟨_, e, hr⟩ := h
  rw [Nat.pow_zero, Nat.div_one] at e
  exact ⟨e, hr⟩
theorem quo_pos {M c Q rem : Nat} (e : M = Q * c + rem) (hr : rem < c) : vz false M / (c : Int) = vz false Q := by
  have hc : (0 : Int) < c := by omega
  refine ((Int.ediv_emod_unique hc (q := (Q : Int)) (r := (rem : Int))).2 ⟨?_, by omega, by omega⟩).1
  subst e
  simp only [vz]; push_cast; rw [Int.mul_comm]; omega
theorem quo_neg {M c Q : Nat} (e : M = Q * c + 0) (hc1 : 1 ≤ c) : vz true M / (c : Int) = vz true Q := by
  have hc : (0 : Int) < c := by omega
  refine ((Int.ediv_emod_unique hc (q := -(Q : Int)) (r := 0)).2 ⟨?_, by omega, by omega⟩).1
  subst e
  simp only [vz]; push_cast; rw [Int.mul_neg, Int.mul_comm]; simp
theorem quo_down {M c Q rem : Nat} (e : M = Q * c + rem) (hr : rem < c) (h0 : rem ≠ 0) : vz true M / (c : Int) = vz true Q + -1 := by
  have hc : (0 : Int) < c := by omega
  refine ((Int.ediv_emod_unique hc (q := -(Q : Int) + -1) (r := (c : Int) - rem)).2 ⟨?_, by omega, by omega⟩).1
  subst e
  simp only [vz]; push_cast; rw [Int.mul_add, Int.mul_neg, Int.mul_comm]; simp; omega
end Go.Proofs.Ytenoalfjobghnaa
