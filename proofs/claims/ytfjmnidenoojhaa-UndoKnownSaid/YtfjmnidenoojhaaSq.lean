/- Sums and maxima of the sizes of sets: over roots, and over elements. -/
import Derived.Test.YtfjmnidenoojhaaPu
set_option linter.unusedVariables false
set_option linter.unusedSimpArgs false
namespace Go.Proofs.Ytfjmnidenoojhaa
open Go.RowKit

def sumTo (g : Nat → Nat) : Nat → Nat
  | 0 => 0
  | k + 1 => sumTo g k + g k
def maxTo (g : Nat → Nat) : Nat → Nat
  | 0 => 0
  | k + 1 => max (maxTo g k) (g k)
theorem sumTo_congr {f g : Nat → Nat} {n : Nat} (h : ∀ i, i < n → f i = g i) : ∀ k, k ≤ n → sumTo f k = sumTo g k := by
  intro k
  induction k with
  | zero => intro _; rfl
  | succ k ih => intro hk; simp only [sumTo, ih (by omega), h k (by omega)]
theorem maxTo_congr {f g : Nat → Nat} {n : Nat} (h : ∀ i, i < n → f i = g i) : ∀ k, k ≤ n → maxTo f k = maxTo g k := by
  intro k
  induction k with
  | zero => intro _; rfl
  | succ k ih => intro hk; simp only [maxTo, ih (by omega), h k (by omega)]
theorem sumTo_add (f g : Nat → Nat) : ∀ k, sumTo (fun i => f i + g i) k = sumTo f k + sumTo g k := by
  intro k
  induction k with
  | zero => rfl
  | succ k ih => simp only [sumTo, ih]; omega
theorem sumTo_one (f : Nat → Nat) (x : Nat) : ∀ n, sumTo (fun i => if x = i then f i else 0) n = if x < n then f x else 0 := by
  intro n
  induction n with
  | zero => simp [sumTo]
  | succ n ih =>
    simp only [sumTo, ih]
    by_cases e : x = n
    · subst e; simp
    · by_cases h : x < n
      · have : x < n + 1 := by omega
        simp [e, h, this]
      · have : ¬ x < n + 1 := by omega
        simp [e, h, this]
theorem sum_swap (F f : Nat → Nat) (n : Nat) : ∀ m, (∀ j, j < m → F j < n) → sumTo (fun i => f i * cnt F i m) n = sumTo (fun j => f (F j)) m := by
  intro m
  induction m with
  | zero =>
    intro _
    have : ∀ k, sumTo (fun i => f i * cnt F i 0) k = 0 := by
      intro k
      induction k with
      | zero => rfl
      | succ k ih => simp only [sumTo, ih]; simp [cnt]
    exact this n
  | succ m ih =>
    intro h
    have e : ∀ i, f i * cnt F i (m + 1) = f i * cnt F i m + (if F m = i then f i else 0) := by
      intro i
      simp only [cnt]
      split
      · rw [Nat.mul_add, Nat.mul_one]
      · simp
    rw [sumTo_congr (n := n) (fun i _ => e i) n (Nat.le_refl _), sumTo_add, ih (fun j hj => h j (by omega)), sumTo_one f, if_pos (h m (by omega))]
    rfl
theorem le_maxTo (g : Nat → Nat) {i : Nat} : ∀ k, i < k → g i ≤ maxTo g k := by
  intro k
  induction k with
  | zero => intro h; omega
  | succ k ih =>
    intro h
    simp only [maxTo]
    by_cases e : i = k
    · subst e; omega
    · have := ih (by omega); omega
theorem maxTo_le {g : Nat → Nat} {b : Nat} : ∀ k, (∀ i, i < k → g i ≤ b) → maxTo g k ≤ b := by
  intro k
  induction k with
  | zero => intro _; exact Nat.zero_le _
  | succ k ih =>
    intro h
    simp only [maxTo]
    have := ih (fun i hi => h i (by omega))
    have := h k (by omega)
    omega
theorem cnt_some {F : Nat → Nat} {i : Nat} : ∀ m, cnt F i m ≠ 0 → ∃ j, j < m ∧ F j = i := by
  intro m
  induction m with
  | zero => intro h; exact absurd rfl h
  | succ m ih =>
    intro h
    by_cases e : F m = i
    · exact ⟨m, by omega, e⟩
    · simp only [cnt, if_neg e] at h
      obtain ⟨j, h1, h2⟩ := ih h
      exact ⟨j, by omega, h2⟩
theorem max_swap (F : Nat → Nat) (n : Nat) (h : ∀ j, j < n → F j < n) : maxTo (fun i => cnt F i n) n = maxTo (fun j => cnt F (F j) n) n := by
  apply Nat.le_antisymm
  · apply maxTo_le
    intro i hi
    by_cases e : cnt F i n = 0
    · simp only [e]; exact Nat.zero_le _
    · obtain ⟨j, h1, h2⟩ := cnt_some n e
      have := le_maxTo (fun j => cnt F (F j) n) n h1
      simp only [h2] at this
      exact this
  · apply maxTo_le
    intro j hj
    exact le_maxTo (fun i => cnt F i n) n (h j hj)
theorem sumTo_le {g : Nat → Nat} {b : Nat} : ∀ k, (∀ i, i < k → g i ≤ b) → sumTo g k ≤ k * b := by
  intro k
  induction k with
  | zero => intro _; simp [sumTo]
  | succ k ih =>
    intro h
    simp only [sumTo]
    have := ih (fun i hi => h i (by omega))
    have := h k (by omega)
    rw [Nat.add_mul, Nat.one_mul]; omega
theorem sumTo_mono (g : Nat → Nat) {i k : Nat} (h : i ≤ k) : sumTo g i ≤ sumTo g k := by
  induction k with
  | zero => have : i = 0 := by omega
            subst this; exact Nat.le_refl _
  | succ k ih =>
    by_cases e : i = k + 1
    · subst e; exact Nat.le_refl _
    · have := ih (by omega); simp only [sumTo]; omega
/-- the size of an element's set -/
def sz (L : Nat → Nat) (n : Nat) : Nat → Nat := fun j => cnt L (L j) n
theorem cnt_alike' {R L : Nat → Nat} {n r l : Nat} (h : ∀ j, j < n → (L j = l ↔ R j = r)) : ∀ m, m ≤ n → cnt R r m = cnt L l m := by
  intro m
  induction m with
  | zero => intro _; rfl
  | succ m ih =>
    intro hm
    simp only [cnt, ih (by omega)]
    have := h m (by omega)
    by_cases e : R m = r
    · rw [if_pos e, if_pos (this.2 e)]
    · rw [if_neg e, if_neg (fun q => e (this.1 q))]
theorem UI.szR {n : Nat} {P Z R L : Nat → Nat} {G : List Nat} (u : UI n P Z R L G) : ∀ j, j < n → cnt R (R j) n = sz L n j := by
  intro j hj
  exact cnt_alike' (n := n) (fun i hi => u.lr i j hi hj) n (Nat.le_refl _)
theorem UI.sum {n : Nat} {P Z R L : Nat → Nat} {G : List Nat} (u : UI n P Z R L G) : sumTo (fun i => cnt R i n * cnt R i n) n = sumTo (sz L n) n := by
  rw [sum_swap R (fun i => cnt R i n) n n u.rl]
  exact sumTo_congr u.szR n (Nat.le_refl _)
theorem UI.max {n : Nat} {P Z R L : Nat → Nat} {G : List Nat} (u : UI n P Z R L G) : maxTo (fun i => cnt R i n) n = maxTo (sz L n) n := by
  rw [max_swap R n u.rl]
  exact maxTo_congr u.szR n (Nat.le_refl _)
/-- a root's size; 0 of another element -/
theorem UI.at_root {n : Nat} {P Z R L : Nat → Nat} {G : List Nat} (u : UI n P Z R L G) {i : Nat} (hi : i < n) : (P i = i → Z i = cnt R i n) ∧ (P i ≠ i → cnt R i n = 0) := by
  refine ⟨fun h => u.zc i hi (u.fix i hi h), fun h => ?_⟩
  apply Classical.byContradiction
  intro e
  obtain ⟨j, hj, hr⟩ := cnt_some n e
  apply h
  apply u.pr i hi
  rw [← hr]; exact u.rr j hj
end Go.Proofs.Ytfjmnidenoojhaa
