/- Fractions in lowest terms, and their order: plain mathematics. -/
import Derived.Test.YtomgdleoegaooaaE
set_option linter.unusedVariables false
set_option linter.unusedSimpArgs false
namespace Go.Proofs.Ytomgdleoegaooaa
theorem sgn_neg (x y : Int) : sgn x y = -sgn y x := by unfold sgn; repeat' split; all_goals omega
theorem sgn_le {x y : Int} : sgn x y ≤ 0 ↔ x ≤ y := by unfold sgn; repeat' split; all_goals omega
theorem sgn_ge {x y : Int} : 0 ≤ sgn x y ↔ y ≤ x := by unfold sgn; repeat' split; all_goals omega
theorem sgn_zero {x y : Int} : sgn x y = 0 ↔ x = y := by unfold sgn; repeat' split; all_goals omega
theorem sgn_bd (x y : Int) : -1 ≤ sgn x y ∧ sgn x y ≤ 1 := by unfold sgn; repeat' split; all_goals omega

/-- the order of fractions is transitive -/
theorem frac_trans {n1 d1 n2 d2 n3 d3 : Int} (h1 : 0 < d1) (h2 : 0 < d2) (h3 : 0 < d3) (a : n1 * d2 ≤ n2 * d1) (b : n2 * d3 ≤ n3 * d2) : n1 * d3 ≤ n3 * d1 := by
  have a' := Int.mul_le_mul_of_nonneg_right a (Int.le_of_lt h3)
  have b' := Int.mul_le_mul_of_nonneg_right b (Int.le_of_lt h1)
  have e1 : n1 * d2 * d3 = n1 * d3 * d2 := Int.mul_right_comm _ _ _
  have e2 : n2 * d1 * d3 = n2 * d3 * d1 := Int.mul_right_comm _ _ _
  have e3 : n3 * d2 * d1 = n3 * d1 * d2 := Int.mul_right_comm _ _ _
  rw [e1, e2] at a'
  rw [e3] at b'
  exact Int.le_of_mul_le_mul_right (Int.le_trans a' b') h2
/-- what is in lowest terms -/
theorem low {n d : Int} (hd : 0 < d) : ∃ g : Int, 0 < g ∧ n = rN n d * g ∧ d = rD n d * g ∧ Int.gcd (rN n d) (rD n d) = 1 := by
  have hg : 0 < Nat.gcd n.natAbs d.natAbs := Nat.gcd_pos_of_pos_right _ (by omega)
  have k1 := Nat.div_mul_cancel (Nat.gcd_dvd_left n.natAbs d.natAbs)
  have k2 := Nat.div_mul_cancel (Nat.gcd_dvd_right n.natAbs d.natAbs)
  have hc : Nat.gcd (n.natAbs / Nat.gcd n.natAbs d.natAbs) (d.natAbs / Nat.gcd n.natAbs d.natAbs) = 1 := Nat.coprime_div_gcd_div_gcd hg
  have e : decide (d < 0) = false := by simp; omega
  unfold rN rD
  rw [e]
  generalize Nat.gcd n.natAbs d.natAbs = g at *
  generalize n.natAbs / g = a at *
  generalize d.natAbs / g = b at *
  refine ⟨g, by omega, ?_, ?_, ?_⟩
  · by_cases h : n < 0
    · simp only [h, decide_true, Bool.bne_false, if_true]
      rw [Int.neg_mul, ← Int.natCast_mul, k1]; omega
    · simp only [h, decide_false, bne_self_eq_false, Bool.false_eq_true, if_false]
      rw [← Int.natCast_mul, k1]; omega
  · rw [← Int.natCast_mul, k2]; omega
  · by_cases h : n < 0
    · simp only [h, decide_true, Bool.bne_false, if_true]
      rw [Int.neg_gcd]
      exact hc
    · simp only [h, decide_false, bne_self_eq_false, Bool.false_eq_true, if_false]
      exact hc
theorem low_i64 {n d : Int} (hn : I64 n) (hd : I64 d) (h : 0 < d) : I64 (rN n d) ∧ I64 (rD n d) ∧ 1 ≤ rD n d := by
  have e : decide (d < 0) = false := by simp; omega
  have l1 : n.natAbs / Nat.gcd n.natAbs d.natAbs ≤ n.natAbs := Nat.div_le_self _ _
  have l2 : d.natAbs / Nat.gcd n.natAbs d.natAbs ≤ d.natAbs := Nat.div_le_self _ _
  have l3 : 1 ≤ d.natAbs / Nat.gcd n.natAbs d.natAbs := Nat.div_pos (Nat.le_of_dvd (by omega) (Nat.gcd_dvd_right _ _)) (Nat.gcd_pos_of_pos_right _ (by omega))
  unfold rN rD
  rw [e]
  generalize n.natAbs / Nat.gcd n.natAbs d.natAbs = a at *
  generalize d.natAbs / Nat.gcd n.natAbs d.natAbs = b at *
  unfold I64 at *
  by_cases hn0 : n < 0
  · simp only [hn0, decide_true, Bool.bne_false, if_true]; omega
  · simp only [hn0, decide_false, bne_self_eq_false, Bool.false_eq_true, if_false]; omega
/-- no common divisor -/
theorem low_dvd {n d : Int} (hd : 0 < d) (k : Int) (hk : 2 ≤ k) (h1 : k ∣ rN n d) : ¬ k ∣ rD n d := by
  intro h2
  obtain ⟨g, _, _, _, hc⟩ := low (n := n) hd
  have h3 := Int.dvd_coe_gcd h1 h2
  rw [hc] at h3
  have := Int.le_of_dvd (by omega) h3
  omega
theorem low_own {n d : Int} (hd : 0 < d) : n * rD n d = rN n d * d := by
  obtain ⟨g, _, h1, h2, _⟩ := low (n := n) hd
  generalize rN n d = N at *
  generalize rD n d = D at *
  subst h1 h2
  rw [Int.mul_right_comm, Int.mul_assoc]
theorem dvd_cop {a b c : Int} (h : a ∣ b * c) (hc : Int.gcd a b = 1) : a ∣ c := by
  rw [← Int.natAbs_dvd_natAbs] at *
  rw [Int.natAbs_mul] at h
  rw [Int.gcd_eq_natAbs_gcd_natAbs] at hc
  exact Nat.Coprime.dvd_of_dvd_mul_left hc h
/-- equal fractions have one lowest form -/
theorem low_same {n d m f : Int} (hd : 0 < d) (hf : 0 < f) : n * f = m * d ↔ (rN n d = rN m f ∧ rD n d = rD m f) := by
  obtain ⟨g, hg, h1, h2, hc⟩ := low (n := n) hd
  obtain ⟨k, hk, h3, h4, hc2⟩ := low (n := m) hf
  generalize rN n d = N at *
  generalize rD n d = D at *
  generalize rN m f = M at *
  generalize rD m f = F at *
  constructor
  · intro h
    have hD : 0 < D := by
      rcases Int.lt_trichotomy D 0 with z | z | z
      · have := Int.mul_neg_of_neg_of_pos z hg; omega
      · rw [z, Int.zero_mul] at h2; omega
      · exact z
    have hF : 0 < F := by
      rcases Int.lt_trichotomy F 0 with z | z | z
      · have := Int.mul_neg_of_neg_of_pos z hk; omega
      · rw [z, Int.zero_mul] at h4; omega
      · exact z
    have e : N * F = M * D := by
      have h5 : (N * F) * (g * k) = (M * D) * (g * k) := by
        calc N * F * (g * k) = N * g * (F * k) := by simp only [Int.mul_left_comm, Int.mul_comm]
          _ = n * f := by rw [← h1, ← h4]
          _ = m * d := h
          _ = M * k * (D * g) := by rw [← h3, ← h2]
          _ = M * D * (g * k) := by simp only [Int.mul_left_comm, Int.mul_comm]
      exact Int.eq_of_mul_eq_mul_right (by have := Int.mul_pos hg hk; omega) h5
    have d1 : D ∣ F := by
      have : D ∣ N * F := ⟨M, by rw [e, Int.mul_comm]⟩
      exact dvd_cop this (by rw [Int.gcd_comm]; exact hc)
    have d2 : F ∣ D := by
      have : F ∣ M * D := ⟨N, by rw [← e, Int.mul_comm]⟩
      exact dvd_cop this (by rw [Int.gcd_comm]; exact hc2)
    have eD : D = F := by
      have := Int.le_of_dvd hF d1; have := Int.le_of_dvd hD d2; omega
    subst eD
    exact ⟨Int.eq_of_mul_eq_mul_right (by omega) e, rfl⟩
  · rintro ⟨rfl, rfl⟩
    rw [h1, h2, h3, h4]
    simp only [Int.mul_left_comm, Int.mul_comm]
end Go.Proofs.Ytomgdleoegaooaa
