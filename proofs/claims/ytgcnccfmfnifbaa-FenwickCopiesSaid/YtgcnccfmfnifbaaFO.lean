/- Additions, in cases. -/
import Derived.Test.YtgcnccfmfnifbaaFY
set_option linter.unusedVariables false
set_option linter.unusedSimpArgs false
namespace Go.Proofs.Ytgcnccfmfnifbaa
open Go.RowKit

theorem addE_ok {C : Nat → Int} {n i : Nat} {d : Int} (hi : i < n) (h1 : 0 ≤ C i + d) (h2 : sumS C n + d ≤ 9223372036854775807) : addE C n (i : Int) d = 0 ∧ addC C n (i : Int) d = updC C i (C i + d) := by
  have e : addE C n (i : Int) d = 0 := by unfold addE; rw [if_pos (by omega), Int.toNat_natCast, if_neg (by omega), if_pos h2]
  exact ⟨e, by unfold addC; rw [if_pos e, Int.toNat_natCast]⟩
theorem addE_arg {C : Nat → Int} {n i : Nat} {d : Int} (hi : i < n) (h1 : C i + d < 0) : addE C n (i : Int) d = 2 ∧ addC C n (i : Int) d = C := by
  have e : addE C n (i : Int) d = 2 := by unfold addE; rw [if_pos (by omega), Int.toNat_natCast, if_pos h1]
  exact ⟨e, by unfold addC; rw [e]; rfl⟩
theorem addE_over {C : Nat → Int} {n i : Nat} {d : Int} (hi : i < n) (h1 : 0 ≤ C i + d) (h2 : 9223372036854775807 < sumS C n + d) : addE C n (i : Int) d = 7 ∧ addC C n (i : Int) d = C := by
  have e : addE C n (i : Int) d = 7 := by unfold addE; rw [if_pos (by omega), Int.toNat_natCast, if_neg (by omega), if_neg (by omega)]
  exact ⟨e, by unfold addC; rw [e]; rfl⟩
theorem addE_range {C : Nat → Int} {n : Nat} {i d : Int} (hi : ¬ (0 ≤ i ∧ i < (n : Int))) : addE C n i d = 3 ∧ addC C n i d = C := by
  have e : addE C n i d = 3 := by unfold addE; rw [if_neg hi]
  exact ⟨e, by unfold addC; rw [e]; rfl⟩
theorem sum_upd {C : Nat → Int} {n i : Nat} (d : Int) (hi : i < n) : sumS (updC C i (C i + d)) n = sumS C n + d := by rw [sumS_upd, if_pos hi]
theorem over_facts {m A B : Nat} {D : Int} (hA : A < m) (hB : B < m) (h0 : 0 ≤ D) (h1 : D ≤ 9223372036854775807) : ∃ C1 C2 C3 C4 : Nat → Int,
    (addE (fun _ => 0) m (A : Int) D = 0 ∧ addC (fun _ => 0) m (A : Int) D = C1) ∧
    (addE C1 m (B : Int) (9223372036854775807 - D) = 0 ∧ addC C1 m (B : Int) (9223372036854775807 - D) = C2) ∧
    sumS C2 m = 9223372036854775807 ∧ (∀ j, j ≠ A → j ≠ B → C2 j = 0) ∧
    (addE C2 m (A : Int) 1 = 7 ∧ addC C2 m (A : Int) 1 = C2) ∧
    (addE C2 m (B : Int) 9223372036854775807 = 7 ∧ addC C2 m (B : Int) 9223372036854775807 = C2) ∧
    (addE C2 m (m : Int) 1 = 3 ∧ addC C2 m (m : Int) 1 = C2) ∧
    (addE C2 m (A : Int) (-D) = 0 ∧ addC C2 m (A : Int) (-D) = C3) ∧
    (addE C3 m 0 D = 0 ∧ addC C3 m 0 D = C4) ∧
    (addE C4 m 0 (-9223372036854775807) = 0 ∨ (addE C4 m 0 (-9223372036854775807) = 2 ∧ addC C4 m 0 (-9223372036854775807) = C4 ∧ C4 0 ≠ 9223372036854775807)) := by
  have z0 : sumS (fun _ => 0) m = 0 := sumS_zero m
  obtain ⟨C1, e1⟩ : ∃ C1, C1 = updC (fun _ => 0) A ((fun _ => (0 : Int)) A + D) := ⟨_, rfl⟩
  have s1 : sumS C1 m = D := by rw [e1, sum_upd D hA, z0]; omega
  have n1 : ∀ j, C1 j = if j = A then 0 + D else 0 := fun j => by rw [e1]; rfl
  obtain ⟨C2, e2⟩ : ∃ C2, C2 = updC C1 B (C1 B + (9223372036854775807 - D)) := ⟨_, rfl⟩
  have s2 : sumS C2 m = 9223372036854775807 := by rw [e2, sum_upd _ hB, s1]; omega
  have n2 : ∀ j, C2 j = if j = B then C1 B + (9223372036854775807 - D) else C1 j := fun j => by rw [e2]; rfl
  obtain ⟨C3, e3⟩ : ∃ C3, C3 = updC C2 A (C2 A + (-D)) := ⟨_, rfl⟩
  have s3 : sumS C3 m = 9223372036854775807 - D := by rw [e3, sum_upd _ hA, s2]; omega
  have n3 : ∀ j, C3 j = if j = A then C2 A + (-D) else C2 j := fun j => by rw [e3]; rfl
  obtain ⟨C4, e4⟩ : ∃ C4, C4 = updC C3 0 (C3 0 + D) := ⟨_, rfl⟩
  have hm : 0 < m := by omega
  have p1 : ∀ j, 0 ≤ C1 j := fun j => by rw [n1]; split <;> omega
  have p2 : ∀ j, 0 ≤ C2 j := fun j => by rw [n2]; have := p1 B; have := p1 j; split <;> omega
  have a2 : D ≤ C2 A := by
    rw [n2]
    have := p1 B
    split
    · next h => subst h; have := n1 A; rw [if_pos rfl] at this; omega
    · have := n1 A; rw [if_pos rfl] at this; omega
  have p3 : ∀ j, 0 ≤ C3 j := fun j => by rw [n3]; have := p2 j; split <;> omega
  have s4 : sumS C4 m = 9223372036854775807 := by rw [e4, sum_upd _ hm, s3]; omega
  refine ⟨C1, C2, C3, C4, ?_, ?_, s2, ?_, ?_, ?_, addE_range (by omega), ?_, ?_, ?_⟩
  · rw [e1]; exact addE_ok hA (by show 0 ≤ (0 : Int) + D; omega) (by rw [z0]; omega)
  · rw [e2]; exact addE_ok hB (by have := p1 B; omega) (by rw [s1]; omega)
  · intro j hj hk; rw [n2, if_neg hk, n1, if_neg hj]
  · exact addE_over hA (by have := p2 A; omega) (by rw [s2]; omega)
  · exact addE_over hB (by have := p2 B; omega) (by rw [s2]; omega)
  · rw [e3]; exact addE_ok hA (by omega) (by rw [s2]; omega)
  · rw [e4]; exact addE_ok (i := 0) hm (by have := p3 0; omega) (by rw [s3]; omega)
  · by_cases g : C4 0 + (-9223372036854775807) < 0
    · right
      have := addE_arg (i := 0) hm g
      exact ⟨this.1, this.2, by omega⟩
    · left
      exact (addE_ok (i := 0) hm (by omega) (by rw [s4]; omega)).1
end Go.Proofs.Ytgcnccfmfnifbaa
