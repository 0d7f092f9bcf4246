/- A grid that is not closed is the closed one without the edges that lead round. -/
import Derived.Test.YthgeccmphnppgaaS
import Derived.Test.YthgeccmphnppgaaU
set_option linter.unusedVariables false
set_option linter.unusedSimpArgs false
namespace Go.Proofs.Ythgeccmphnppgaa
open Go.RowKit

/-- whether an edge leads from the last one of z to the first one -/
def rnd (z p q : Nat) : Bool := decide (3 ≤ z) && (decide (p = z - 1) && decide (q = 0))
def stay (w h : Nat) (t : E3) : Bool := !(rnd w (t.1.toNat % w) (t.2.1.toNat % w)) && !(rnd h (t.1.toNat / w) (t.2.1.toNat / w))
theorem rnd_ahd {x d z : Nat} (hd : d ≤ 1) (hx : x < z) (hlt : x + d < z) : rnd z x (x + d) = false := by
  unfold rnd
  by_cases h : 3 ≤ z
  · simp [h]; omega
  · simp [h]
theorem rnd_back {x d z : Nat} (hd : d ≤ 1) (hx : x < z) (hlt : ¬ x + d < z) (h : 3 ≤ z) : rnd z x 0 = true := by
  unfold rnd
  simp [h]; omega
theorem edge_stay {w h v : Nat} (hw : 1 ≤ w) (hv : v < w * h) (wx wy : Bool) {d : Nat × Nat} (h0 : d.1 ≤ 1) (h1 : d.2 ≤ 1) :
    (edgeAt w h wx wy v d).filter (stay w h) = edgeAt w h false false v d := by
  have hx : v % w < w := Nat.mod_lt _ (by omega)
  have hy : v / w < h := by rw [Nat.div_lt_iff_lt_mul (by omega), Nat.mul_comm]; exact hv
  have hst : ∀ x y : Nat, x < w → stay w h ((v : Int), ((y : Nat) : Int) * (w : Int) + ((x : Nat) : Int), 0) = (!(rnd w (v % w) x) && !(rnd h (v / w) y)) := by
    intro x y hxw
    have e : (((y : Nat) : Int) * (w : Int) + ((x : Nat) : Int)).toNat = x + y * w := by rw [← Int.natCast_mul, ← Int.natCast_add, Int.toNat_natCast, Nat.add_comm]
    unfold stay
    simp only [e, Int.toNat_natCast]
    rw [Nat.add_mul_mod_self_right, Nat.mod_eq_of_lt hxw, Nat.add_mul_div_right _ _ (by omega), Nat.div_eq_of_lt hxw, Nat.zero_add]
  unfold edgeAt ahd
  by_cases a : v % w + d.1 < w
  · by_cases b : v / w + d.2 < h
    · simp only [if_pos a, if_pos b, Bool.and_self, if_true, List.filter_cons, List.filter_nil, hst _ _ a, rnd_ahd h0 hx a, rnd_ahd h1 hy b, Bool.not_false]
    · by_cases c : wy = true ∧ 3 ≤ h
      · have := hst _ 0 a
        simp at this
        simp [a, b, c.1, c.2, this, rnd_back h1 hy b c.2]
      · simp only [if_pos a, if_neg b]
        have : (wy && decide (3 ≤ h)) = false := by cases wy <;> simp at c ⊢; omega
        simp [this]
  · by_cases c : wx = true ∧ 3 ≤ w
    · by_cases b : v / w + d.2 < h
      · have := hst 0 (v / w + d.2) (by omega)
        simp at this
        simp [a, b, c.1, c.2, this, rnd_back h0 hx a c.2]
      · have := hst 0 0 (by omega)
        simp at this
        by_cases e : wy = true ∧ 3 ≤ h
        · simp [a, b, c.1, c.2, e.1, e.2, this, rnd_back h0 hx a c.2]
        · have e' : (wy && decide (3 ≤ h)) = false := by cases wy <;> simp at e ⊢; omega
          simp [a, b, e']
    · have e' : (wx && decide (3 ≤ w)) = false := by cases wx <;> simp at c ⊢; omega
      simp [a, e']
theorem flat_stay {w h v : Nat} (hw : 1 ≤ w) (hv : v < w * h) (wx wy : Bool) : ∀ {ds : List (Nat × Nat)}, (∀ d ∈ ds, d.1 ≤ 1 ∧ d.2 ≤ 1) →
    (ds.flatMap (edgeAt w h wx wy v)).filter (stay w h) = ds.flatMap (edgeAt w h false false v) := by
  intro ds
  induction ds with
  | nil => intro _; rfl
  | cons d ds ih =>
    intro hd
    have := hd d (by simp)
    rw [List.flatMap_cons, List.flatMap_cons, List.filter_append, edge_stay hw hv wx wy this.1 this.2, ih (fun x hx => hd x (by simp [hx]))]
theorem gE_stay {w h : Nat} (hw : 1 ≤ w) (wx wy : Bool) {ds : List (Nat × Nat)} (hd : ∀ d ∈ ds, d.1 ≤ 1 ∧ d.2 ≤ 1) : ∀ n, n ≤ w * h → (gE w h wx wy ds n).filter (stay w h) = gE w h false false ds n := by
  intro n
  induction n with
  | zero => intro _; rfl
  | succ n ih =>
    intro hn
    unfold gE
    rw [List.filter_append, ih (by omega), flat_stay hw (by omega) wx wy hd]
theorem edge_nat {w h v : Nat} {wx wy : Bool} {d : Nat × Nat} {t : E3} (hw : 1 ≤ w) (hh : 1 ≤ h) (ht : t ∈ edgeAt w h wx wy v d) : ∃ u : Nat, u ≤ h * w + w ∧ t = ((v : Int), (u : Int), 0) := by
  unfold edgeAt at ht
  split at ht
  · simp at ht
    have q1 := ahd_lt (a := v % w) (s := d.1) (c := wx) (show 0 < w by omega)
    have q2 := ahd_lt (a := v / w) (s := d.2) (c := wy) (show 0 < h by omega)
    have q3 := Nat.mul_le_mul_right w (Nat.le_of_lt q2)
    exact ⟨(ahd (v / w) d.2 h wy).1 * w + (ahd (v % w) d.1 w wx).1, by omega, by rw [ht]; simp⟩
  · simp at ht
theorem gE_nat {w h : Nat} {wx wy : Bool} {ds : List (Nat × Nat)} (hw : 1 ≤ w) (hh : 1 ≤ h) : ∀ {n : Nat} {t : E3}, t ∈ gE w h wx wy ds n → ∃ u v : Nat, u < n ∧ v ≤ h * w + w ∧ t = ((u : Int), (v : Int), 0) := by
  intro n
  induction n with
  | zero => intro t ht; simp [gE] at ht
  | succ n ih =>
    intro t ht
    unfold gE at ht
    rw [List.mem_append, List.mem_flatMap] at ht
    rcases ht with ht | ⟨d, hd, ht⟩
    · obtain ⟨u, v, h1, h2⟩ := ih ht
      exact ⟨u, v, by omega, h2⟩
    · obtain ⟨u, h1, h2⟩ := edge_nat hw hh ht
      exact ⟨n, u, by omega, h1, h2⟩
theorem rnd_cases (z p q : Nat) : (rnd z p q = false ∧ ¬ 3 ≤ z) ∨ (rnd z p q = false ∧ 3 ≤ z ∧ p ≠ z - 1) ∨ (rnd z p q = false ∧ 3 ≤ z ∧ p = z - 1 ∧ q ≠ 0) ∨ (rnd z p q = true ∧ 3 ≤ z ∧ p = z - 1 ∧ q = 0) := by
  unfold rnd
  by_cases a : 3 ≤ z
  · by_cases b : p = z - 1
    · by_cases c : q = 0
      · simp [a, b, c]
      · simp [a, b, c]
    · simp [a, b]
  · simp [a]
theorem stay_nat (w h u v : Nat) : stay w h ((u : Int), (v : Int), 0) = (!(rnd w (u % w) (v % w)) && !(rnd h (u / w) (v / w))) := rfl
theorem filter_next {α : Type} {f : α → Bool} {l : List α} {k : Nat} {t : α} (h : l[k]? = some t) : (l.take (k + 1)).filter f = (l.take k).filter f ++ (if f t = true then [t] else []) := by
  rw [take_next h, List.filter_append]
  congr 1
  cases e : f t <;> simp [e]
end Go.Proofs.Ythgeccmphnppgaa
