import Derived.Test.YtomgdleoegaooaaE
import Derived.Deep.DeepCutAuto
import Derived.Laws.Bits64b
import Derived.Lib.ItoaNum
set_option linter.unusedVariables false
set_option linter.unusedSimpArgs false
namespace Go.Proofs.Ytomgdleoegaooaa
open Go.RowKit
namespace KD
/-- the half step of a long division: what is carried along -/
structure Inv (u t v q r : Nat) : Prop where
  ge : (u * 4294967296 + t) / v ≤ q
  eq : q * (v / 4294967296) + r = u

theorem start {u t v : Nat} (hv : 9223372036854775808 ≤ v) (ht : t < 4294967296) : Inv u t v (u / (v / 4294967296)) (u % (v / 4294967296)) := by
  constructor
  · rw [Nat.le_div_iff_mul_le (by omega)]
    have h1 : (u * 4294967296 + t) / v * v ≤ u * 4294967296 + t := Nat.div_mul_le_self _ _
    have h2 : (u * 4294967296 + t) / v * (v / 4294967296 * 4294967296) ≤ (u * 4294967296 + t) / v * v := Nat.mul_le_mul_left _ (by omega)
    rw [← Nat.mul_assoc] at h2
    generalize (u * 4294967296 + t) / v * (v / 4294967296) = a at *
    omega
  · have := Nat.div_add_mod u (v / 4294967296)
    rw [Nat.mul_comm] at this
    exact this

theorem start_le {u v : Nat} (hv : 9223372036854775808 ≤ v) (hu : u < v) (hv2 : v < 18446744073709551616) : u / (v / 4294967296) ≤ 4294967297 := by
  apply Nat.le_of_lt_succ
  rw [Nat.div_lt_iff_lt_mul (by omega)]
  omega
theorem start_r {u v : Nat} (hv : 9223372036854775808 ≤ v) (hv2 : v < 18446744073709551616) : u % (v / 4294967296) < 4294967296 := by
  have := Nat.mod_lt u (show v / 4294967296 > 0 by omega); omega

theorem split (q v : Nat) : q * v = q * (v / 4294967296) * 4294967296 + q * (v % 4294967296) := by
  have h := Nat.div_add_mod' v 4294967296
  calc q * v = q * (v / 4294967296 * 4294967296 + v % 4294967296) := by rw [h]
    _ = _ := by rw [Nat.mul_add, Nat.mul_assoc]
theorem quo_lt {u t v : Nat} (hu : u < v) (ht : t < 4294967296) : (u * 4294967296 + t) / v < 4294967296 := by
  rw [Nat.div_lt_iff_lt_mul (by omega)]
  omega

theorem dec {u t v q r : Nat} (h : Inv u t v q r) (hu : u < v) (ht : t < 4294967296) (hb : 4294967296 ≤ q ∨ 4294967296 * r + t < q * (v % 4294967296)) : Inv u t v (q - 1) (r + v / 4294967296) ∧ 1 ≤ q := by
  have hq := quo_lt hu ht
  have hgt : (u * 4294967296 + t) / v < q := by
    rcases hb with hb | hb
    · omega
    · refine (Nat.div_lt_iff_lt_mul (Nat.zero_lt_of_lt hu)).2 ?_
      rw [split q v]
      have h2 := h.eq
      generalize q * (v / 4294967296) = a at *
      generalize q * (v % 4294967296) = b at *
      omega
  have h1q : 1 ≤ q := Nat.lt_of_le_of_lt (Nat.zero_le _) hgt
  refine ⟨⟨Nat.le_sub_one_of_lt hgt, ?_⟩, h1q⟩
  have h2 := h.eq
  clear hgt hq hb h
  obtain ⟨k, rfl⟩ : ∃ k, q = k + 1 := ⟨q - 1, by omega⟩
  rw [Nat.add_mul, Nat.one_mul] at h2
  simp only [Nat.add_sub_cancel]
  generalize k * (v / 4294967296) = a at *
  omega

/-- it ends where the estimate fits -/
theorem fits {u t v q r : Nat} (h : Inv u t v q r) (hv : 0 < v) (hb : q * (v % 4294967296) ≤ 4294967296 * r + t) : q = (u * 4294967296 + t) / v := by
  refine Nat.le_antisymm ?_ h.ge
  rw [Nat.le_div_iff_mul_le hv]
  rw [split q v]
  have h2 := h.eq
  generalize q * (v / 4294967296) = a at *
  generalize q * (v % 4294967296) = b at *
  omega
/-- or where the rest has become great -/
theorem breaks {u t v q r : Nat} (h : Inv u t v q r) (hv : 0 < v) (hq : q ≤ 4294967296) (hr : 4294967296 ≤ r) : q = (u * 4294967296 + t) / v := by
  refine fits h hv ?_
  have h1 : q * (v % 4294967296) ≤ 4294967296 * (v % 4294967296) := Nat.mul_le_mul_right _ hq
  have h2 : 4294967296 * 4294967296 ≤ 4294967296 * r := Nat.mul_le_mul_left _ hr
  omega

/-- two half steps are the whole -/
theorem whole {u x v q1 r1 q0 : Nat} (hv : 0 < v) (h1 : q1 = (u * 4294967296 + x / 4294967296) / v) (h2 : r1 = (u * 4294967296 + x / 4294967296) % v) (h3 : q0 = (r1 * 4294967296 + x % 4294967296) / v) :
    q1 * 4294967296 + q0 = (u * 18446744073709551616 + x) / v ∧ (r1 * 4294967296 + x % 4294967296) % v = (u * 18446744073709551616 + x) % v := by
  have e1 := Nat.div_add_mod (u * 4294967296 + x / 4294967296) v
  have e : u * 18446744073709551616 + x = r1 * 4294967296 + x % 4294967296 + v * (q1 * 4294967296) := by
    rw [← Nat.mul_assoc, h1, h2]
    have e2 : x = x / 4294967296 * 4294967296 + x % 4294967296 := by omega
    generalize v * ((u * 4294967296 + x / 4294967296) / v) = a at *
    generalize (u * 4294967296 + x / 4294967296) % v = b at *
    generalize x / 4294967296 = c at *
    generalize x % 4294967296 = d at *
    omega
  have a1 : (u * 18446744073709551616 + x) / v = (r1 * 4294967296 + x % 4294967296) / v + q1 * 4294967296 := by
    rw [e]; exact Nat.add_mul_div_left _ _ hv
  have a2 : (u * 18446744073709551616 + x) % v = (r1 * 4294967296 + x % 4294967296) % v := by
    rw [e]; exact Nat.add_mul_mod_self_left _ _ _
  exact ⟨by rw [a1, h3, Nat.add_comm], a2.symm⟩

theorem scale {n y k : Nat} (hk : 0 < k) : n * k / (y * k) = n / y ∧ n * k % (y * k) / k = n % y := by
  constructor
  · exact Nat.mul_div_mul_right _ _ hk
  · rw [Nat.mul_mod_mul_right, Nat.mul_div_cancel _ hk]
end KD
namespace KD
theorem lead (y : Nat) (h0 : 1 ≤ y) (h1 : y < 18446744073709551616) : ∃ s : Nat, s ≤ 63 ∧ (64 - (Lib.bitLen y : Int)) = (s : Int) ∧ 9223372036854775808 ≤ y * 2 ^ s ∧ y * 2 ^ s < 18446744073709551616 := by
  obtain ⟨b1, b2, b3⟩ := Lib.bitLenAux_bounds 64 y h1 (by omega)
  have b4 : Lib.bitLen y ≤ 64 := Lib.bitLen_le y 64 (Nat.le_refl _) h1
  change 1 ≤ Lib.bitLen y at b1
  change 2 ^ (Lib.bitLen y - 1) ≤ y at b2
  change y < 2 ^ Lib.bitLen y at b3
  generalize Lib.bitLen y = L at *
  refine ⟨64 - L, by omega, by omega, ?_, ?_⟩
  · have h := Nat.mul_le_mul_right (2 ^ (64 - L)) b2
    rw [← Nat.pow_add, show L - 1 + (64 - L) = 63 by omega] at h
    exact h
  · have h := Nat.mul_lt_mul_of_pos_right b3 (Nat.two_pow_pos (64 - L))
    rw [← Nat.pow_add, show L + (64 - L) = 64 by omega] at h
    exact h

/-- the upper word behind the shift -/
theorem upper (hi lo y s : Nat) (hs : s ≤ 63) (hl : lo < 18446744073709551616) (hh : hi < y) (hy : y * 2 ^ s < 18446744073709551616) :
    hi * 2 ^ s < 18446744073709551616 ∧ lo / 2 ^ (64 - s) < 18446744073709551616 ∧ (hi * 2 ^ s ||| lo / 2 ^ (64 - s)) = hi * 2 ^ s + lo / 2 ^ (64 - s) ∧ hi * 2 ^ s + lo / 2 ^ (64 - s) < y * 2 ^ s ∧
    (hi * 2 ^ s + lo / 2 ^ (64 - s)) * 18446744073709551616 + lo * 2 ^ s % 18446744073709551616 = (hi * 18446744073709551616 + lo) * 2 ^ s := by
  have h1 : (hi + 1) * 2 ^ s ≤ y * 2 ^ s := Nat.mul_le_mul_right _ hh
  rw [Nat.add_mul, Nat.one_mul] at h1
  have hp := Nat.two_pow_pos s
  have e64 : 2 ^ (64 - s) * 2 ^ s = 18446744073709551616 := by rw [← Nat.pow_add, show 64 - s + s = 64 by omega]
  have h2 : lo / 2 ^ (64 - s) < 2 ^ s := by
    rw [Nat.div_lt_iff_lt_mul (Nat.two_pow_pos _), Nat.mul_comm, e64]; exact hl
  have h3 : lo / 2 ^ (64 - s) ≤ lo := Nat.div_le_self _ _
  have h5 : lo * 2 ^ s / 18446744073709551616 = lo / 2 ^ (64 - s) := by rw [← e64]; exact Nat.mul_div_mul_right _ _ hp
  have h6 := Nat.div_add_mod (lo * 2 ^ s) 18446744073709551616
  rw [h5] at h6
  refine ⟨by omega, by omega, ?_, by omega, ?_⟩
  · have := Nat.two_pow_add_eq_or_of_lt h2 hi
    rw [Nat.mul_comm, this]
  · rw [Nat.add_mul (hi * 18446744073709551616), Nat.mul_right_comm hi]
    generalize hi * 2 ^ s = a at *
    generalize lo * 2 ^ s = b at *
    generalize lo / 2 ^ (64 - s) = c at *
    omega
end KD
