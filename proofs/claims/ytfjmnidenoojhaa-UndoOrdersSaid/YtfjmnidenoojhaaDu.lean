/- The labels are those of the components of the united pairs. -/
import Derived.Test.YtfjmnidenoojhaaDp
set_option linter.unusedVariables false
set_option linter.unusedSimpArgs false
namespace Go.Proofs.Ytfjmnidenoojhaa
open Go.RowKit

def inr (n : Nat) (x : Int) : Prop := 0 ≤ x ∧ x < (n : Int)
/-- the first k pairs have been united, and nothing else -/
structure Uni (n : Nat) (V : Nat → Nat → Int) (k : Nat) (L : Nat → Nat) : Prop where
  eq : ∀ q, q < k → inr n (V q 0) → inr n (V q 1) → L (V q 0).toNat = L (V q 1).toNat
  un : ∀ M : Nat → Nat, (∀ q, q < k → inr n (V q 0) → inr n (V q 1) → M (V q 0).toNat = M (V q 1).toNat) → ∀ i j, i < n → j < n → L i = L j → M i = M j
theorem Uni.start (n : Nat) (V : Nat → Nat → Int) : Uni n V 0 (fun i => i) := ⟨fun q h => by omega, fun M _ i j _ _ e => by rw [show i = j from e]⟩
theorem Uni.skip {n : Nat} {V : Nat → Nat → Int} {k : Nat} {L : Nat → Nat} (h : Uni n V k L) (e : inr n (V k 0) → inr n (V k 1) → L (V k 0).toNat = L (V k 1).toNat) : Uni n V (k + 1) L := by
  refine ⟨fun q hq h1 h2 => ?_, fun M hM i j hi hj hL => h.un M (fun q hq => hM q (by omega)) i j hi hj hL⟩
  by_cases hk : q = k
  · subst hk; exact e h1 h2
  · exact h.eq q (by omega) h1 h2
theorem Uni.unite {n : Nat} {V : Nat → Nat → Int} {k : Nat} {L : Nat → Nat} (h : Uni n V k L) (r0 : inr n (V k 0)) (r1 : inr n (V k 1)) (hne : L (V k 0).toNat ≠ L (V k 1).toNat) : Uni n V (k + 1) (jn L (L (V k 0).toNat) (L (V k 1).toNat)) := by
  have cong : ∀ u v, L u = L v → jn L (L (V k 0).toNat) (L (V k 1).toNat) u = jn L (L (V k 0).toNat) (L (V k 1).toNat) v := by
    intro u v e
    unfold jn
    rw [e]
  refine ⟨fun q hq h1 h2 => ?_, fun M hM i j hi hj hL => ?_⟩
  · by_cases hk : q = k
    · subst hk
      unfold jn
      rcases Nat.lt_or_ge (L (V q 0).toNat) (L (V q 1).toNat) with hl | hl
      · rw [Nat.max_eq_right (by omega), Nat.min_eq_left (by omega), if_neg hne, if_pos rfl]
      · rw [Nat.max_eq_left (by omega), Nat.min_eq_right (by omega), if_pos rfl, if_neg (Ne.symm hne)]
    · exact cong _ _ (h.eq q (by omega) h1 h2)
  · have hab := hM k (by omega) r0 r1
    have old := h.un M (fun q hq => hM q (by omega))
    have ha : (V k 0).toNat < n := by have := r0; unfold inr at this; omega
    have hb : (V k 1).toNat < n := by have := r1; unfold inr at this; omega
    generalize (V k 0).toNat = a at *
    generalize (V k 1).toNat = b at *
    unfold jn at hL
    have cls : ∀ u, u < n → (L u = max (L a) (L b) ∨ L u = min (L a) (L b)) → M u = M a := by
      intro u hu hc
      rcases Nat.lt_or_ge (L a) (L b) with hl | hl
      · rw [Nat.max_eq_right (by omega), Nat.min_eq_left (by omega)] at hc
        rcases hc with hc | hc
        · rw [old u b hu hb hc]; exact hab.symm
        · exact old u a hu ha hc
      · rw [Nat.max_eq_left (by omega), Nat.min_eq_right (by omega)] at hc
        rcases hc with hc | hc
        · exact old u a hu ha hc
        · rw [old u b hu hb hc]; exact hab.symm
    by_cases e1 : L i = max (L a) (L b)
    · rw [if_pos e1] at hL
      rw [cls i hi (.inl e1)]
      by_cases e2 : L j = max (L a) (L b)
      · rw [cls j hj (.inl e2)]
      · rw [if_neg e2] at hL
        rw [cls j hj (.inr hL.symm)]
    · rw [if_neg e1] at hL
      by_cases e2 : L j = max (L a) (L b)
      · rw [if_pos e2] at hL
        rw [cls j hj (.inl e2), cls i hi (.inr hL)]
      · rw [if_neg e2] at hL
        exact old i j hi hj hL
end Go.Proofs.Ytfjmnidenoojhaa
