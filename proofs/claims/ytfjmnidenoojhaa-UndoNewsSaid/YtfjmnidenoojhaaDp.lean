/- Labels of disjoint sets: what a forest of parents says, and what unions do to it. -/
import Derived.Test.YtfjmnidenoojhaaBase
set_option linter.unusedVariables false
set_option linter.unusedSimpArgs false
namespace Go.Proofs.Ytfjmnidenoojhaa
open Go.RowKit

/-- the parents P say that the least element of i's set is L i, for the n first numbers -/
structure Good (n : Nat) (P : Nat → Nat) (L : Nat → Nat) : Prop where
  le : ∀ i, i < n → P i ≤ i
  lp : ∀ i, i < n → L (P i) = L i
  fix : ∀ i, i < n → P i = i → L i = i
  ll : ∀ i, i < n → L i ≤ i
  idem : ∀ i, i < n → L (L i) = L i
  pl : ∀ i, i < n → P (L i) = L i
def upd (f : Nat → Nat) (a v : Nat) : Nat → Nat := fun i => if i = a then v else f i
theorem upd_same (f : Nat → Nat) (a v : Nat) : upd f a v a = v := by simp [upd]
theorem upd_far {f : Nat → Nat} {a v i : Nat} (h : i ≠ a) : upd f a v i = f i := by simp [upd, h]
theorem Good.id (n : Nat) : Good n (fun i => i) (fun i => i) := ⟨fun i _ => Nat.le_refl _, fun _ _ => rfl, fun _ _ _ => rfl, fun _ _ => Nat.le_refl _, fun _ _ => rfl, fun _ _ => rfl⟩
theorem Good.halve {n : Nat} {P L : Nat → Nat} (g : Good n P L) {a : Nat} (ha : a < n) : Good n (upd P a (P (P a))) L := by
  have h1 := g.le a ha
  have h2 := g.le (P a) (by omega)
  refine ⟨fun i hi => ?_, fun i hi => ?_, fun i hi he => ?_, g.ll, g.idem, fun i hi => ?_⟩
  · by_cases e : i = a
    · subst e; rw [upd_same]; omega
    · rw [upd_far e]; exact g.le i hi
  · by_cases e : i = a
    · subst e; rw [upd_same, g.lp _ (by omega), g.lp _ hi]
    · rw [upd_far e]; exact g.lp i hi
  · by_cases e : i = a
    · subst e
      rw [upd_same] at he
      exact g.fix i hi (by omega)
    · rw [upd_far e] at he; exact g.fix i hi he
  · have := g.ll i hi
    by_cases e : L i = a
    · have h3 := g.pl i hi
      rw [e] at h3
      rw [e, upd_same, h3, h3]
    · rw [upd_far e]; exact g.pl i hi
/-- the labels behind a union -/
def jn (L : Nat → Nat) (x y : Nat) : Nat → Nat := fun i => if L i = max x y then min x y else L i
theorem Good.unite {n : Nat} {P L : Nat → Nat} (g : Good n P L) {a b : Nat} (ha : a < n) (hb : b < n) (hne : L a ≠ L b) : Good n (upd P (max (L a) (L b)) (min (L a) (L b))) (jn L (L a) (L b)) := by
  obtain ⟨x, y, hxy, hx, hy, hlt, exm, eym⟩ : ∃ x y, jn L (L a) (L b) = (fun i => if L i = y then x else L i) ∧ (x < n ∧ L x = x) ∧ (y < n ∧ L y = y) ∧ x < y ∧ x = min (L a) (L b) ∧ y = max (L a) (L b) := by
    have h1 := g.ll a ha
    have h2 := g.ll b hb
    have h3 := g.idem a ha
    have h4 := g.idem b hb
    rcases Nat.lt_or_ge (L a) (L b) with h | h
    · refine ⟨L a, L b, ?_, ⟨by omega, h3⟩, ⟨by omega, h4⟩, h, by omega, by omega⟩
      unfold jn
      rw [Nat.max_eq_right (by omega), Nat.min_eq_left (by omega)]
    · refine ⟨L b, L a, ?_, ⟨by omega, h4⟩, ⟨by omega, h3⟩, by omega, by omega, by omega⟩
      unfold jn
      rw [Nat.max_eq_left (by omega), Nat.min_eq_right (by omega)]
  rw [hxy, ← exm, ← eym]
  refine ⟨fun i hi => ?_, fun i hi => ?_, fun i hi he => ?_, fun i hi => ?_, fun i hi => ?_, fun i hi => ?_⟩
  · by_cases e : i = y
    · subst e; rw [upd_same]; omega
    · rw [upd_far e]; exact g.le i hi
  · by_cases e : i = y
    · subst e
      rw [upd_same]
      have : L x ≠ i := by rw [hx.2]; omega
      simp [hx.2, hy.2, this]
    · rw [upd_far e]
      show (if L (P i) = y then x else L (P i)) = _
      rw [g.lp i hi]
  · by_cases e : i = y
    · subst e; rw [upd_same] at he; omega
    · rw [upd_far e] at he
      have := g.fix i hi he
      show (if L i = y then x else L i) = i
      rw [this, if_neg e]
  · have := g.ll i hi
    show (if L i = y then x else L i) ≤ i
    split
    · omega
    · exact this
  · show (if L (if L i = y then x else L i) = y then x else L (if L i = y then x else L i)) = if L i = y then x else L i
    by_cases e : L i = y
    · rw [if_pos e, hx.2, if_neg (by omega)]
    · rw [if_neg e, g.idem i hi, if_neg e]
  · show upd P y x (if L i = y then x else L i) = _
    by_cases e : L i = y
    · rw [if_pos e, upd_far (by omega)]
      have := g.pl x hx.1
      rwa [hx.2] at this
    · rw [if_neg e, upd_far e]
      exact g.pl i hi

/-- how many of the numbers below m have this label -/
def cnt (L : Nat → Nat) (x : Nat) : Nat → Nat
  | 0 => 0
  | m + 1 => cnt L x m + if L m = x then 1 else 0
def roots (L : Nat → Nat) : Nat → Nat
  | 0 => 0
  | m + 1 => roots L m + if L m = m then 1 else 0
theorem cnt_le (L : Nat → Nat) (x : Nat) : ∀ m, cnt L x m ≤ m := by
  intro m
  induction m with
  | zero => simp [cnt]
  | succ m ih => simp only [cnt]; split <;> omega
theorem cnt_id (x : Nat) : ∀ m, cnt (fun i => i) x m = if x < m then 1 else 0 := by
  intro m
  induction m with
  | zero => simp [cnt]
  | succ m ih =>
    simp only [cnt, ih]
    by_cases h : m = x
    · subst h; simp
    · by_cases h2 : x < m
      · rw [if_pos h2, if_neg h, if_pos (by omega)]
      · rw [if_neg h2, if_neg h, if_neg (by omega)]
theorem roots_id : ∀ m, roots (fun i => i) m = m := by
  intro m
  induction m with
  | zero => rfl
  | succ m ih => simp [roots, ih]
theorem cnt_join {L : Nat → Nat} {x y : Nat} (h : x ≠ y) : ∀ m, cnt (jn L x y) (min x y) m = cnt L x m + cnt L y m := by
  intro m
  induction m with
  | zero => simp [cnt]
  | succ m ih =>
    simp only [cnt, ih]
    have : (if jn L x y m = min x y then 1 else 0) = (if L m = x then 1 else 0) + (if L m = y then 1 else 0) := by
      unfold jn
      rcases Nat.lt_or_ge x y with hl | hl
      · rw [Nat.max_eq_right (by omega), Nat.min_eq_left (by omega)]
        by_cases e : L m = y
        · simp [e]; omega
        · simp [e]
      · rw [Nat.max_eq_left (by omega), Nat.min_eq_right (by omega)]
        by_cases e : L m = x
        · simp [e]; omega
        · simp [e]
    omega
theorem cnt_other {L : Nat → Nat} {x y z : Nat} (h1 : z ≠ x) (h2 : z ≠ y) : ∀ m, cnt (jn L x y) z m = cnt L z m := by
  intro m
  induction m with
  | zero => simp [cnt]
  | succ m ih =>
    simp only [cnt, ih]
    have : (jn L x y m = z) ↔ (L m = z) := by
      unfold jn
      split
      · rename_i e
        constructor
        · intro h; omega
        · intro h; omega
      · exact Iff.rfl
    simp [this]
theorem roots_join {n : Nat} {P L : Nat → Nat} (g : Good n P L) {a b : Nat} (ha : a < n) (hb : b < n) (hne : L a ≠ L b) : roots (jn L (L a) (L b)) n + 1 = roots L n := by
  have key : ∀ m, m ≤ n → roots (jn L (L a) (L b)) m + (if max (L a) (L b) < m then 1 else 0) = roots L m := by
    intro m
    induction m with
    | zero => intro _; simp [roots]
    | succ m ih =>
      intro hm
      have := ih (by omega)
      simp only [roots]
      have hmax : L (max (L a) (L b)) = max (L a) (L b) := by
        rcases Nat.le_total (L a) (L b) with h | h
        · rw [Nat.max_eq_right h]; exact g.idem b hb
        · rw [Nat.max_eq_left h]; exact g.idem a ha
      by_cases e : m = max (L a) (L b)
      · have h1 : jn L (L a) (L b) m ≠ m := by
          unfold jn
          rw [e, hmax, if_pos rfl]; omega
        have h2 : L m = m := by rw [e]; exact hmax
        rw [if_neg h1, if_pos h2, if_pos (by omega)]
        rw [if_neg (by omega)] at this
        omega
      · have h1 : (jn L (L a) (L b) m = m) ↔ (L m = m) := by
          unfold jn
          by_cases e2 : L m = max (L a) (L b)
          · rw [if_pos e2]
            constructor
            · intro h
              exfalso
              have hmin : L (min (L a) (L b)) = min (L a) (L b) := by
                rcases Nat.le_total (L a) (L b) with h | h
                · rw [Nat.min_eq_left h]; exact g.idem a ha
                · rw [Nat.min_eq_right h]; exact g.idem b hb
              rw [h] at hmin
              omega
            · intro h; omega
          · rw [if_neg e2]
        simp only [h1]
        have h3 : (max (L a) (L b) < m + 1) ↔ (max (L a) (L b) < m) := by omega
        simp only [h3]
        omega
  have h1 := g.ll a ha
  have h2 := g.ll b hb
  have := key n (Nat.le_refl _)
  rw [if_pos (by omega)] at this
  exact this
end Go.Proofs.Ytfjmnidenoojhaa
