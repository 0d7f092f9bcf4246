/- What the laws of counters need besides. -/
import Derived.Test.YtgcnccfmfnifbaaFM
set_option linter.unusedVariables false
set_option linter.unusedSimpArgs false
namespace Go.Proofs.Ytgcnccfmfnifbaa
open Go.RowKit

theorem sumS_lC {w : World} {s : Option Addr} {len : Nat} {V : Nat → Nat → Int} (h : Rd16 w s len V) : ∀ k : Nat, sumS (lC len V) k ≤ 65535 * (k : Int) := sumS_le (fun i => (lC_bd h i).2)
theorem lC_in {len i : Nat} (V : Nat → Nat → Int) (h : i < len) : lC len V i = V i 0 := by unfold lC; rw [if_pos h]
theorem rngN {C : Nat → Int} {n p q : Nat} (h : p ≤ q) (hq : q ≤ n) : rngV C n (p : Int) (q : Int) = sumS C q - sumS C p := by
  unfold rngV
  by_cases e : p = q
  · subst e; simp
  · rw [if_neg (by omega), clip_nat hq, clip_nat (Nat.le_trans h hq)]
theorem rng0 {C : Nat → Int} {n p q : Nat} (h : p ≤ q) : rngV C n (q : Int) (p : Int) = 0 := by
  unfold rngV; rw [if_pos (by omega)]
theorem getN {C : Nat → Int} {n i : Nat} (h : i < n) : getV C n (i : Int) = C i := by
  unfold getV; rw [if_pos (by omega), Int.toNat_natCast]
/-- the questions that are asked of counters which stand still -/
structure Asks (w1 : World) (b n : Nat) (C : Nat → Int) : Prop where
  pre : ∀ W, Kp [] w1 W → ∀ k : Int, Calls Try.prog 22 #[.pointer (some ⟨b, 0, none⟩), .int .i64 k] W fun e w' => e = .returned (.int .i64 (sumS C (clipN k n))) ∧ Kp [] w1 w'
  rng : ∀ W, Kp [] w1 W → ∀ x y : Int, Calls Try.prog 23 #[.pointer (some ⟨b, 0, none⟩), .int .i64 x, .int .i64 y] W fun e w' => e = .returned (.int .i64 (rngV C n x y)) ∧ Kp [] w1 w'
  get : ∀ W, Kp [] w1 W → ∀ i : Int, Calls Try.prog 21 #[.pointer (some ⟨b, 0, none⟩), .int .i64 i] W fun e w' => e = .returned (.int .i64 (getV C n i)) ∧ Kp [] w1 w'
  tot : ∀ W, Kp [] w1 W → Calls Try.prog 24 #[.pointer (some ⟨b, 0, none⟩)] W fun e w' => e = .returned (.int .i64 (sumS C n)) ∧ Kp [] w1 w'
  len : ∀ W, Kp [] w1 W → Calls Try.prog 25 #[.pointer (some ⟨b, 0, none⟩)] W fun e w' => e = .returned (.int .i64 (n : Int)) ∧ Kp [] w1 w'
  find : ∀ W, Kp [] w1 W → ∀ x : Int, Calls Try.prog 20 #[.pointer (some ⟨b, 0, none⟩), .int .i64 x] W fun e w' => FindA C n x e ∧ Kp [] w1 w'
theorem FAt.asks {B : Nat} {w : World} {b n : Nat} {own : List Nat} {C : Nat → Int} (h : FAt B w b n own C) : Asks w b n C where
  pre W k x := (prefix_t (h.keep0 k) x).mono fun e w' ⟨h1, h2⟩ => ⟨h1, k.trans0 h2⟩
  rng W k x y := (range_t (h.keep0 k) x y).mono fun e w' ⟨h1, h2⟩ => ⟨h1, k.trans0 h2⟩
  get W k x := (get_t (h.keep0 k) x).mono fun e w' ⟨h1, h2⟩ => ⟨h1, k.trans0 h2⟩
  tot W k := (total_t (h.keep0 k)).mono fun e w' ⟨h1, h2⟩ => ⟨h1, h2 ▸ k⟩
  len W k := (len_t (h.keep0 k)).mono fun e w' ⟨h1, h2⟩ => ⟨h1, h2 ▸ k⟩
  find W k x := (find_t (h.keep0 k) x).mono fun e w' ⟨h1, h2⟩ => ⟨h1, k.trans0 h2⟩
theorem find_yes {C : Nat → Int} {n i : Nat} {x : Int} {e : Ending} (f : FindA C n x e) (h : ∀ i, 0 ≤ C i) (hi : i < n) (h1 : sumS C i ≤ x) (h2 : x < sumS C (i + 1)) : e = .returned (.tuple #[.int .i64 (i : Int), .bool true]) := by
  rcases f with ⟨_, _, j, hj, h3, h4, rfl⟩ | ⟨hn, _⟩
  · rw [sum_uniq h h1 h2 h3 h4]
  · exfalso
    have a1 := sumS_mono h (Nat.zero_le i)
    have a2 := sumS_mono h (show i + 1 ≤ n by omega)
    have a3 : sumS C 0 = 0 := rfl
    omega
theorem find_no {C : Nat → Int} {n : Nat} {x : Int} {e : Ending} (f : FindA C n x e) (h : ¬ (0 ≤ x ∧ x < sumS C n)) : e = .returned (.tuple #[.int .i64 0, .bool false]) := by
  rcases f with ⟨h1, h2, _⟩ | ⟨_, h2⟩
  · exact (h ⟨h1, h2⟩).elim
  · exact h2
theorem min_nat (x y : Nat) : (if y < x then (y : Int) else (x : Int)) = ((min x y : Nat) : Int) := by split <;> omega
theorem max_nat (x y : Nat) : (if x < y then (y : Int) else (x : Int)) = ((max x y : Nat) : Int) := by split <;> omega
/-- three indexes in order, as the law lays them -/
theorem sort3 (i j k n : Nat) (hi : i ≤ n) (hj : j ≤ n) (hk : k ≤ n) : ∃ p q s t u v : Nat, (if j < i then (j : Int) else (i : Int)) = (p : Int) ∧ (if i < j then (j : Int) else (i : Int)) = (q : Int) ∧ (if k < q then (k : Int) else (q : Int)) = (s : Int) ∧ (if q < k then (k : Int) else (q : Int)) = (t : Int) ∧ (if s < p then (s : Int) else (p : Int)) = (u : Int) ∧ (if p < s then (s : Int) else (p : Int)) = (v : Int) ∧ u ≤ v ∧ v ≤ t ∧ t ≤ n :=
  ⟨min i j, max i j, min (max i j) k, max (max i j) k, min (min i j) (min (max i j) k), max (min i j) (min (max i j) k), min_nat _ _, max_nat _ _, min_nat _ _, max_nat _ _, min_nat _ _, max_nat _ _, by omega, by omega, by omega⟩
end Go.Proofs.Ytgcnccfmfnifbaa
