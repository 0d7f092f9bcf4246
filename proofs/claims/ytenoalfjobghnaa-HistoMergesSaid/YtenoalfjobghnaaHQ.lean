/- Quantile's errors; Quantile of a good histogram. -/
import Derived.Test.YtenoalfjobghnaaHP
set_option linter.unusedVariables false
set_option linter.unusedSimpArgs false
namespace Go.Proofs.Ytenoalfjobghnaa
open Go.RowKit

section
variable {B : Nat} {w : World} {b : Nat} {vB vC : Value} {m : Nat} {V C : Nat → Int} (M : HM B w b vB vC m V C)
include M
set_option maxRecDepth 100000 in
set_option maxHeartbeats 4000000 in
theorem quantile_arg (n d : Int) (no : n < 0 ∨ d < 1 ∨ d < n) :
    Calls Try.prog 23 #[.pointer (some ⟨b, 0, none⟩), .int .i64 n, .int .i64 d] w fun e w' => e = .returned (.tuple #[.int .i64 0, .int .i64 2]) ∧ Kp [] w w' := by
  have K3 := hide (((Kp.alloc (o := []) w (.cells #[.pointer (some ⟨b, 0, none⟩)] 24)).allocK (.cells #[.int .i64 n] 2)).allocK (.cells #[.int .i64 d] 2))
  obtain ⟨g, c, rfl⟩ := M.C_at
  have H := hide (valid_t (M.keep K3.out (by simp)).c.2)
  clear M
  by_cases h1 : n < 0
  · have e1 : decide (n < 0) = true := by simpa using h1
    clear no h1
    go_enter Try.func23, Try.ntmps23
    go_wp2_with fail
    refine H.out.mono ?_
    rintro e w' ⟨rfl, rfl⟩
    go_wp2_with fail
    go_ret2
    exact ⟨rfl, K3.out⟩
  · have e1 : decide (n < 0) = false := by simpa using h1
    by_cases h2 : d < 1
    · have e2 : decide (d < 1) = true := by simpa using h2
      clear no h1 h2
      go_enter Try.func23, Try.ntmps23
      go_wp2_with fail
      refine H.out.mono ?_
      rintro e w' ⟨rfl, rfl⟩
      go_wp2_with fail
      go_ret2
      exact ⟨rfl, K3.out⟩
    · have e2 : decide (d < 1) = false := by simpa using h2
      have e3 : decide (d < n) = true := by simp; omega
      clear no h1 h2
      go_enter Try.func23, Try.ntmps23
      go_wp2_with fail
      refine H.out.mono ?_
      rintro e w' ⟨rfl, rfl⟩
      go_wp2_with fail
      go_ret2
      exact ⟨rfl, K3.out⟩
set_option maxRecDepth 100000 in
set_option maxHeartbeats 4000000 in
theorem quantile_none (hm : m ≤ 1024) (nn : ∀ i, i < m + 1 → 0 ≤ C i) (n d : Int) (n0 : 0 ≤ n) (d0 : 1 ≤ d) (nd : n ≤ d) (z : sumI C (m + 1) = 0) :
    Calls Try.prog 23 #[.pointer (some ⟨b, 0, none⟩), .int .i64 n, .int .i64 d] w fun e w' => e = .returned (.tuple #[.int .i64 0, .int .i64 5]) ∧ Kp [] w w' := by
  have K3 := hide (((Kp.alloc (o := []) w (.cells #[.pointer (some ⟨b, 0, none⟩)] 24)).allocK (.cells #[.int .i64 n] 2)).allocK (.cells #[.int .i64 d] 2))
  have M3 := hide (M.keep K3.out (by simp))
  have T := hide (total_t M3.out hm nn (by rw [z]; decide))
  rw [z] at T
  obtain ⟨g, c, rfl⟩ := M.C_at
  have H := hide (valid_t M3.out.c.2)
  have e1 : decide (n < 0) = false := by simp; omega
  have e2 : decide (d < 1) = false := by simp; omega
  have e3 : decide (d < n) = false := by simp; omega
  clear M M3 hm nn z n0 d0 nd
  go_enter Try.func23, Try.ntmps23
  go_wp2_with fail
  refine H.out.mono ?_
  rintro e w' ⟨rfl, rfl⟩
  go_wp2_with fail
  refine T.out.mono ?_
  rintro e w' ⟨rfl, rfl⟩
  have K4 := hide (K3.out.allocK (.cells #[.int .i64 0] 2))
  go_wp2_with fail
  go_ret2
  exact ⟨rfl, K4.out⟩
end
theorem sgn_nn {x y : Int} : 0 ≤ sgn x y ↔ y ≤ x := by
  unfold sgn
  by_cases h : x < y
  · rw [if_pos h]; simp; omega
  · rw [if_neg h]; split <;> simp <;> omega
theorem enough_iff {C : Nat → Int} {n d tot : Int} {i : Nat} : enough C n d tot i = true ↔ n * tot ≤ sumI C (i + 1) * d := by
  unfold enough; rw [decide_eq_true_iff]; exact sgn_nn
theorem enough_not {C : Nat → Int} {n d tot : Int} {i : Nat} : enough C n d tot i = false ↔ sumI C (i + 1) * d < n * tot := by
  rw [← Bool.not_eq_true, enough_iff]; omega
/-- the first bucket that is enough: r -/
def Qt (C : Nat → Int) (m : Nat) (n d : Int) (r : Nat) : Prop := r ≤ m ∧ n * sumI C (m + 1) ≤ sumI C (r + 1) * d ∧ ∀ i, i < r → sumI C (i + 1) * d < n * sumI C (m + 1)
theorem Qt.unique {C : Nat → Int} {m : Nat} {n d : Int} {r s : Nat} (h : Qt C m n d r) (k : Qt C m n d s) : r = s := by
  rcases Nat.lt_trichotomy r s with q | q | q
  · have := k.2.2 r q; have := h.2.1; omega
  · exact q
  · have := h.2.2 s q; have := k.2.1; omega
theorem quantile_g {S : Nat} {w : World} {a : Id} {m : Nat} {V C : Nat → Int} (G : HI S w a m V C) {n d : Int} (n0 : 0 ≤ n) (d0 : 1 ≤ d) (nd : n ≤ d) (n1 : I64 n) (d1 : I64 d) (tp : 0 < sumI C (m + 1)) :
    Calls Try.prog 23 #[.pointer (some ⟨a.b, 0, none⟩), .int .i64 n, .int .i64 d] w fun e w' => ∃ r : Nat, e = .returned (.tuple #[.int .i64 (r : Int), .int .i64 0]) ∧ Qt C m n d r ∧ Kp [] w w' := by
  refine (quantile_t G.M G.hm G.nn G.top n0 d0 nd n1 d1 tp).mono ?_
  rintro e w' ⟨r, rfl, r1, r2, r3, k⟩
  refine ⟨r, rfl, ⟨r1, ?_, fun i hi => enough_not.1 (r2 i hi)⟩, k⟩
  by_cases h : r < m
  · exact enough_iff.1 (r3 r (Nat.le_refl _) h)
  · obtain rfl : r = m := by omega
    rw [Int.mul_comm (sumI C (r + 1)) d]
    exact Int.mul_le_mul_of_nonneg_right nd (Int.le_of_lt tp)
theorem Qt.mono {C : Nat → Int} {m : Nat} {n n' d : Int} {r s : Nat} (h : Qt C m n d r) (k : Qt C m n' d s) (hn : n' ≤ n) (tp : 0 ≤ sumI C (m + 1)) : s ≤ r := by
  rcases Nat.lt_or_ge r s with q | q
  · have h1 := k.2.2 r q
    have h2 := h.2.1
    have h3 := Int.mul_le_mul_of_nonneg_right hn tp
    omega
  · exact q
end Go.Proofs.Ytenoalfjobghnaa
