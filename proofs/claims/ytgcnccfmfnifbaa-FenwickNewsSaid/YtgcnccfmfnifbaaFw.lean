/- The lowest power of two in a number; sums of counters. -/
import Derived.Test.YtgcnccfmfnifbaaFv
import Derived.WalkKit
import Derived.Test.YtgcnccfmfnifbaaGen
import Derived.Laws.Bits64
set_option linter.unusedVariables false
set_option linter.unusedSimpArgs false
namespace Go.Proofs.Ytgcnccfmfnifbaa
open Go.RowKit

section
/-- the lowest power of two in a number -/
def low (k : Nat) : Nat := if h : k = 0 then 0 else if k % 2 = 1 then 1 else 2 * low (k / 2)
termination_by k
decreasing_by omega
theorem low_zero : low 0 = 0 := by unfold low; simp
theorem low_odd {k : Nat} (h : k % 2 = 1) : low k = 1 := by unfold low; rw [dif_neg (by omega), if_pos h]
theorem low_dbl (m : Nat) (h : 0 < m) : low (2 * m) = 2 * low m := by
  conv => lhs; unfold low
  rw [dif_neg (by omega), if_neg (by omega), show 2 * m / 2 = m by omega]
theorem low_ind {P : Nat → Prop} (h1 : ∀ k, k % 2 = 1 → P k) (h2 : ∀ m, 0 < m → P m → P (2 * m)) : ∀ k, 0 < k → P k := by
  intro k
  induction k using Nat.strongRecOn with
  | _ k ih =>
    intro hk
    by_cases h : k % 2 = 1
    · exact h1 k h
    · have e : k = 2 * (k / 2) := by omega
      rw [e]
      exact h2 _ (by omega) (ih _ (by omega) (by omega))
theorem low_bd : ∀ k, 0 < k → 0 < low k ∧ low k ≤ k := by
  refine low_ind (fun k h => ?_) (fun m hm h => ?_)
  · rw [low_odd h]; omega
  · rw [low_dbl m hm]; omega
theorem low_le (k : Nat) : low k ≤ k := by
  by_cases h : 0 < k
  · exact (low_bd k h).2
  · have : k = 0 := by omega
    subst this; rw [low_zero]; exact Nat.le_refl _
/-- what lies between a number and its next one covers nothing below -/
theorem low_mid : ∀ k, 0 < k → ∀ r, 0 < r → r < low k → low (k + r) ≤ r := by
  refine low_ind (fun k h r h1 h2 => ?_) (fun m hm ih r h1 h2 => ?_)
  · rw [low_odd h] at h2; omega
  · rw [low_dbl m hm] at h2
    by_cases hr : r % 2 = 1
    · rw [low_odd (by omega)]; exact h1
    · have e : r = 2 * (r / 2) := by omega
      have := ih (r / 2) (by omega) (by omega)
      rw [e, ← Nat.mul_add, low_dbl _ (by omega)]
      omega
/-- the next number covers all that a number covers -/
theorem low_next : ∀ k, 0 < k → (k + low k) - low (k + low k) ≤ k - low k := by
  refine low_ind (fun k h => ?_) (fun m hm ih => ?_)
  · rw [low_odd h]
    have e : k + 1 = 2 * ((k + 1) / 2) := by omega
    have := low_bd ((k + 1) / 2) (by omega)
    rw [e, low_dbl _ (by omega)]
    omega
  · rw [low_dbl m hm, ← Nat.mul_add, low_dbl _ (by have := low_bd m hm; omega)]
    omega
/-- the chain of numbers that cover i, from k on: what it does to all of them -/
def covers (k i : Nat) : Prop := k - low k ≤ i ∧ i < k
theorem covers_first (i : Nat) : covers (i + 1) i := ⟨by have := low_bd (i + 1) (by omega); omega, by omega⟩
theorem covers_step {k i : Nat} (h : covers k i) : covers (k + low k) i := by
  have hk : 0 < k := by have := h.2; omega
  exact ⟨Nat.le_trans (low_next k hk) h.1, by have := h.2; omega⟩
theorem covers_gap {k i : Nat} (h : covers k i) {j : Nat} (h1 : k < j) (h2 : j < k + low k) : ¬ covers j i := by
  have hk : 0 < k := by have := h.2; omega
  have := low_mid k hk (j - k) (by omega) (by omega)
  rw [show k + (j - k) = j by omega] at this
  intro c
  have := c.1
  have := h.2
  omega
theorem covers_before {i j : Nat} (h : j ≤ i) : ¬ covers j i := fun c => by have := c.2; omega
/-- k & (k - 1) -/
theorem and_pred : ∀ k, 0 < k → k &&& (k - 1) = k - low k := by
  refine low_ind (fun k h => ?_) (fun m hm ih => ?_)
  · rw [low_odd h]
    apply Nat.eq_of_testBit_eq
    intro i
    rw [Nat.testBit_and]
    cases i with
    | zero => simp [Nat.testBit_zero]; omega
    | succ i =>
      rw [Nat.testBit_succ, Nat.testBit_succ, show (k - 1) / 2 = k / 2 by omega, Bool.and_self]
  · rw [low_dbl m hm, ← Nat.mul_sub, ← ih]
    apply Nat.eq_of_testBit_eq
    intro i
    rw [Nat.testBit_and]
    cases i with
    | zero => simp [Nat.testBit_zero]
    | succ i =>
      rw [Nat.testBit_succ, Nat.testBit_succ, Nat.testBit_succ, show 2 * m / 2 = m by omega, show (2 * m - 1) / 2 = m - 1 by omega, show 2 * (m &&& (m - 1)) / 2 = m &&& (m - 1) by omega, Nat.testBit_and]
end
section
theorem and_neg0 (q x : Nat) (h : x < 2 ^ q) : x &&& (2 ^ q - (x + 1)) = 0 := by
  apply Nat.eq_of_testBit_eq
  intro i
  rw [Nat.testBit_and, Nat.testBit_two_pow_sub_succ h]
  simp
  intro a _; exact a
/-- k & -k -/
theorem and_neg : ∀ k, 0 < k → ∀ p, k < 2 ^ p → k &&& (2 ^ p - k) = low k := by
  refine low_ind (fun k h p hp => ?_) (fun m hm ih p hp => ?_)
  · rw [low_odd h]
    cases p with
    | zero => omega
    | succ q =>
      have h2 : 2 ^ (q + 1) = 2 * 2 ^ q := by rw [Nat.pow_succ]; omega
      rw [h2] at hp ⊢
      have e1 : (2 * 2 ^ q - k) / 2 = 2 ^ q - (k / 2 + 1) := by omega
      have e2 := and_neg0 q (k / 2) (by omega)
      apply Nat.eq_of_testBit_eq
      intro i
      rw [Nat.testBit_and]
      cases i with
      | zero => simp only [Nat.testBit_zero]; rw [show (2 * 2 ^ q - k) % 2 = 1 by omega, h]; decide
      | succ i =>
        rw [Nat.testBit_succ, Nat.testBit_succ, Nat.testBit_succ, e1, ← Nat.testBit_and, e2]
  · rw [low_dbl m hm]
    cases p with
    | zero => omega
    | succ q =>
      have h2 : 2 ^ (q + 1) = 2 * 2 ^ q := by rw [Nat.pow_succ]; omega
      rw [h2] at hp ⊢
      rw [← Nat.mul_sub, ← ih q (by omega)]
      apply Nat.eq_of_testBit_eq
      intro i
      rw [Nat.testBit_and]
      cases i with
      | zero => simp [Nat.testBit_zero]
      | succ i =>
        rw [Nat.testBit_succ, Nat.testBit_succ, Nat.testBit_succ, show 2 * m / 2 = m by omega, show 2 * (2 ^ q - m) / 2 = 2 ^ q - m by omega, show 2 * (m &&& (2 ^ q - m)) / 2 = m &&& (2 ^ q - m) by omega, Nat.testBit_and]
end
section
/-- the sum of the first k numbers -/
def sumS (C : Nat → Int) : Nat → Int
  | 0 => 0
  | k + 1 => sumS C k + C k
def updC (C : Nat → Int) (i : Nat) (v : Int) : Nat → Int := fun j => if j = i then v else C j
theorem sumS_upd (C : Nat → Int) (i : Nat) (d : Int) : ∀ k, sumS (updC C i (C i + d)) k = sumS C k + (if i < k then d else 0)
  | 0 => by simp [sumS]
  | k + 1 => by
    rw [sumS, sumS, sumS_upd C i d k]
    unfold updC
    by_cases h : k = i
    · subst h; simp; omega
    · rw [if_neg h]
      by_cases h2 : i < k
      · rw [if_pos h2, if_pos (by omega)]; omega
      · rw [if_neg h2, if_neg (by omega)]; omega
theorem sumS_congr {C D : Nat → Int} : ∀ k, (∀ i, i < k → C i = D i) → sumS C k = sumS D k
  | 0, _ => rfl
  | k + 1, h => by rw [sumS, sumS, sumS_congr k (fun i hi => h i (by omega)), h k (by omega)]
theorem sumS_mono {C : Nat → Int} (h : ∀ i, 0 ≤ C i) {a b : Nat} (hab : a ≤ b) : sumS C a ≤ sumS C b := by
  induction b with
  | zero => have : a = 0 := by omega
            subst this; exact Int.le_refl _
  | succ b ih =>
    by_cases e : a = b + 1
    · subst e; exact Int.le_refl _
    · have := ih (by omega)
      have := h b
      rw [sumS]; omega
theorem sumS_zero : ∀ k, sumS (fun _ => 0) k = 0
  | 0 => rfl
  | k + 1 => by rw [sumS, sumS_zero k]; rfl
/-- what the k-th sum holds -/
def tr (C : Nat → Int) (k : Nat) : Int := sumS C k - sumS C (k - low k)
theorem tr_upd (C : Nat → Int) (i : Nat) (d : Int) (k : Nat) : tr (updC C i (C i + d)) k = tr C k + (if k - low k ≤ i ∧ i < k then d else 0) := by
  unfold tr
  rw [sumS_upd, sumS_upd]
  have := low_le k
  by_cases h1 : i < k
  · by_cases h2 : i < k - low k
    · rw [if_pos h1, if_pos h2, if_neg (by omega)]; omega
    · rw [if_pos h1, if_neg h2, if_pos (by omega)]; omega
  · rw [if_neg h1, if_neg (by omega), if_neg (by omega)]; omega
theorem tr_bd {C : Nat → Int} (h : ∀ i, 0 ≤ C i) (k : Nat) : 0 ≤ tr C k ∧ tr C k ≤ sumS C k := by
  have h1 := sumS_mono h (show k - low k ≤ k by omega)
  have h2 := sumS_mono h (Nat.zero_le (k - low k))
  have h3 : sumS C 0 = 0 := rfl
  unfold tr; omega
/-- the sums when the holders of i below k have got d -/
def trK (C : Nat → Int) (i : Nat) (d : Int) (k j : Nat) : Int := if j < k ∧ j - low j ≤ i ∧ i < j then tr C j + d else tr C j
theorem trK_start (C : Nat → Int) (i : Nat) (d : Int) (j : Nat) : trK C i d (i + 1) j = tr C j := by unfold trK; rw [if_neg (by omega)]
theorem trK_end (C : Nat → Int) (i : Nat) (d : Int) {k j : Nat} (h : j < k) : trK C i d k j = tr (updC C i (C i + d)) j := by
  rw [tr_upd]; unfold trK
  by_cases c : j - low j ≤ i ∧ i < j
  · rw [if_pos ⟨h, c⟩, if_pos c]
  · rw [if_neg (fun x => c x.2), if_neg c]; omega
theorem trK_at (C : Nat → Int) (i : Nat) (d : Int) (k : Nat) : trK C i d k k = tr C k := by unfold trK; rw [if_neg (by omega)]
theorem trK_next (C : Nat → Int) {i : Nat} (d : Int) {k : Nat} (c : covers k i) (j : Nat) : trK C i d (k + low k) j = if j = k then tr C k + d else trK C i d k j := by
  have hk : 0 < k := by have := c.2; omega
  have hl := (low_bd k hk).1
  by_cases e : j = k
  · subst e
    rw [if_pos rfl]; unfold trK
    rw [if_pos ⟨by omega, c.1, c.2⟩]
  · rw [if_neg e]
    unfold trK
    by_cases h1 : j < k
    · by_cases h2 : j - low j ≤ i ∧ i < j
      · rw [if_pos ⟨by omega, h2⟩, if_pos ⟨h1, h2⟩]
      · rw [if_neg (fun x => h2 x.2), if_neg (fun x => h2 x.2)]
    · rw [if_neg (show ¬ (j < k ∧ _) from fun x => h1 x.1)]
      by_cases h2 : j < k + low k
      · have g := covers_gap c (show k < j by omega) h2
        rw [if_neg (fun x => g x.2)]
      · rw [if_neg (fun x => h2 x.1)]
/-- the numbers of the sums that make up the first k -/
def pk (k : Nat) : Nat → Nat
  | 0 => k
  | r + 1 => pk k r - low (pk k r)
/-- the numbers of the sums that contain a counter -/
def hk (i : Nat) : Nat → Nat
  | 0 => i + 1
  | r + 1 => hk i r + low (hk i r)
theorem hk_covers (i : Nat) : ∀ r, covers (hk i r) i
  | 0 => covers_first i
  | r + 1 => covers_step (hk_covers i r)
theorem hk_pos (i r : Nat) : 0 < hk i r := by have := (hk_covers i r).2; omega
end
theorem bits_and {k : Nat} (h0 : 0 < k) (h : k ≤ 131072) : bits .and .i64 (k : Int) ((k : Int) - 1) = ((k - low k : Nat) : Int) := by
  have e : IntKind.i64.wrap ((BitVec.ofInt 64 (k : Int) &&& BitVec.ofInt 64 ((k : Int) - 1)).toNat : Int) = ((k - low k : Nat) : Int) := by
    have h1 : (BitVec.ofInt 64 (k : Int)).toNat = k := by rw [BitVec.toNat_ofInt]; omega
    have h2 : (BitVec.ofInt 64 ((k : Int) - 1)).toNat = k - 1 := by rw [BitVec.toNat_ofInt]; omega
    rw [BitVec.toNat_and, h1, h2, and_pred k h0, IntKind.wrap_i64]
    omega
  rw [← e]
  rfl
theorem bits_neg {k : Nat} (h0 : 0 < k) (h : k ≤ 131072) : bits .and .i64 (k : Int) (-(k : Int)) = ((low k : Nat) : Int) := by
  have e : IntKind.i64.wrap ((BitVec.ofInt 64 (k : Int) &&& BitVec.ofInt 64 (-(k : Int))).toNat : Int) = ((low k : Nat) : Int) := by
    have h1 : (BitVec.ofInt 64 (k : Int)).toNat = k := by rw [BitVec.toNat_ofInt]; omega
    have h2 : (BitVec.ofInt 64 (-(k : Int))).toNat = 2 ^ 64 - k := by rw [BitVec.toNat_ofInt]; omega
    have h3 := low_bd k h0
    rw [BitVec.toNat_and, h1, h2, and_neg k h0 64 (by omega), IntKind.wrap_i64]
    omega
  rw [← e]
  rfl
end Go.Proofs.Ytgcnccfmfnifbaa
