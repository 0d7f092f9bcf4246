/- Where the groups lie: the places of the sets in one list. -/
import Derived.Test.YtgnifimibonbjaaDp
set_option linter.unusedVariables false
set_option linter.unusedSimpArgs false
namespace Go.Proofs.Ytgnifimibonbjaa

/-- how many of the first k elements have a label below m -/
def low (L : Nat → Nat) (m : Nat) : Nat → Nat
  | 0 => 0
  | k + 1 => low L m k + if L k < m then 1 else 0
theorem low_le (L : Nat → Nat) (m : Nat) : ∀ k, low L m k ≤ k := by
  intro k
  induction k with
  | zero => simp [low]
  | succ k ih => simp only [low]; split <;> omega
theorem low_zero (L : Nat → Nat) : ∀ k, low L 0 k = 0 := by
  intro k
  induction k with
  | zero => rfl
  | succ k ih => simp [low, ih]
theorem low_succ (L : Nat → Nat) (m : Nat) : ∀ k, low L (m + 1) k = low L m k + cnt L m k := by
  intro k
  induction k with
  | zero => simp [low, cnt]
  | succ k ih =>
    simp only [low, cnt, ih]
    by_cases e : L k = m
    · have h1 : L k < m + 1 := by omega
      have h2 : ¬ L k < m := by omega
      rw [if_pos h1, if_neg h2, if_pos e]; omega
    · by_cases h : L k < m
      · have h1 : L k < m + 1 := by omega
        rw [if_pos h1, if_pos h, if_neg e]; omega
      · have h1 : ¬ L k < m + 1 := by omega
        rw [if_neg h1, if_neg h, if_neg e]; omega
/-- where the group of the root m begins: behind the groups of the roots below it -/
def st (L : Nat → Nat) (n : Nat) : Nat → Nat
  | 0 => 0
  | m + 1 => st L n m + if L m = m then cnt L m n else 0
theorem cnt_zero {L : Nat → Nat} {x n : Nat} (idem : ∀ i, i < n → L (L i) = L i) (h : L x ≠ x) : ∀ k, k ≤ n → cnt L x k = 0 := by
  intro k hk
  induction k with
  | zero => rfl
  | succ k ih =>
    simp only [cnt, ih (by omega)]
    rw [if_neg (fun e => h (by have := idem k (by omega); rw [e] at this; exact this))]
theorem st_low {L : Nat → Nat} {n : Nat} (idem : ∀ i, i < n → L (L i) = L i) : ∀ m, st L n m = low L m n := by
  intro m
  induction m with
  | zero => rw [low_zero]; rfl
  | succ m ih =>
    rw [low_succ]
    simp only [st, ih]
    by_cases h : L m = m
    · rw [if_pos h]
    · rw [if_neg h, cnt_zero idem h n (Nat.le_refl _)]
theorem st_mono {L : Nat → Nat} {n : Nat} : ∀ a b, a ≤ b → st L n a ≤ st L n b := by
  intro a b h
  induction b with
  | zero => have : a = 0 := by omega
            subst this; exact Nat.le_refl _
  | succ b ih =>
    by_cases e : a = b + 1
    · subst e; exact Nat.le_refl _
    · have := ih (by omega)
      simp only [st]; split <;> omega
/-- the group of a root lies before that of the next one -/
theorem st_apart {L : Nat → Nat} {n a b : Nat} (ha : L a = a) (h : a < b) : st L n a + cnt L a n ≤ st L n b := by
  have h1 := st_mono (L := L) (n := n) (a + 1) b (by omega)
  simp only [st, if_pos ha] at h1
  exact h1
theorem st_room {L : Nat → Nat} {n a : Nat} (idem : ∀ i, i < n → L (L i) = L i) (ha : L a = a) : st L n a + cnt L a n ≤ n := by
  have h1 := st_apart (n := n) ha (show a < a + 1 by omega)
  have h2 := low_le L (a + 1) n
  rw [← st_low idem] at h2
  omega
theorem st_all {L : Nat → Nat} {n : Nat} (idem : ∀ i, i < n → L (L i) = L i) (le : ∀ i, i < n → L i ≤ i) : st L n n = n := by
  rw [st_low idem]
  have : ∀ k, k ≤ n → low L n k = k := by
    intro k hk
    induction k with
    | zero => rfl
    | succ k ih => simp only [low, ih (by omega)]; rw [if_pos (by have := le k (by omega); omega)]
  exact this n (Nat.le_refl _)
theorem cnt_mono (L : Nat → Nat) (x : Nat) : ∀ a b, a ≤ b → cnt L x a ≤ cnt L x b := by
  intro a b h
  induction b with
  | zero => have : a = 0 := by omega
            subst this; exact Nat.le_refl _
  | succ b ih =>
    by_cases e : a = b + 1
    · subst e; exact Nat.le_refl _
    · have := ih (by omega)
      simp only [cnt]; omega
/-- there is room for one more of a set while not all of it has been met -/
theorem cnt_room {L : Nat → Nat} {n i : Nat} (hi : i < n) : cnt L (L i) i < cnt L (L i) n := by
  have h := cnt_mono L (L i) (i + 1) n (by omega)
  simp only [cnt, if_pos] at h
  omega
theorem roots_mono (L : Nat → Nat) : ∀ a b, a ≤ b → roots L a ≤ roots L b := by
  intro a b h
  induction b with
  | zero => have : a = 0 := by omega
            subst this; exact Nat.le_refl _
  | succ b ih =>
    by_cases e : a = b + 1
    · subst e; exact Nat.le_refl _
    · have := ih (by omega)
      simp only [roots]; omega
/-- the numbers of the groups are different ones -/
theorem roots_lt {L : Nat → Nat} {a b : Nat} (ha : L a = a) (h : a < b) : roots L a < roots L b := by
  have h1 := roots_mono L (a + 1) b (by omega)
  simp only [roots, if_pos ha] at h1
  omega
/-- every number of a group belongs to a root -/
theorem roots_at (L : Nat → Nat) : ∀ m j, j < roots L m → ∃ a, a < m ∧ L a = a ∧ roots L a = j := by
  intro m
  induction m with
  | zero => intro j h; simp [roots] at h
  | succ m ih =>
    intro j h
    by_cases hj : j < roots L m
    · obtain ⟨a, h1, h2, h3⟩ := ih j hj
      exact ⟨a, by omega, h2, h3⟩
    · simp only [roots] at h
      by_cases e : L m = m
      · rw [if_pos e] at h
        exact ⟨m, by omega, e, by omega⟩
      · rw [if_neg e] at h; omega
end Go.Proofs.Ytgnifimibonbjaa
