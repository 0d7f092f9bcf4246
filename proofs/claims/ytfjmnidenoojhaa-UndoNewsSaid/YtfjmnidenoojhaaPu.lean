/- Sets whose unions can be undone: parents, sizes, roots and labels as functions. -/
import Derived.Test.YtfjmnidenoojhaaDp
set_option linter.unusedVariables false
set_option linter.unusedSimpArgs false
namespace Go.Proofs.Ytfjmnidenoojhaa
open Go.RowKit

def mv (R : Nat → Nat) (a b : Nat) : Nat → Nat := fun i => if R i = b then a else R i
theorem cnt_mv {R : Nat → Nat} {a b : Nat} (h : a ≠ b) : ∀ m, cnt (mv R a b) a m = cnt R a m + cnt R b m := by
  intro m
  induction m with
  | zero => simp [cnt]
  | succ m ih =>
    simp only [cnt, ih, mv]
    by_cases e : R m = b
    · simp [e, Ne.symm h]; omega
    · by_cases e2 : R m = a
      · simp [e, e2, h]; omega
      · simp [e, e2]
theorem cnt_mv_other {R : Nat → Nat} {a b z : Nat} (h1 : z ≠ a) (h2 : z ≠ b) : ∀ m, cnt (mv R a b) z m = cnt R z m := by
  intro m
  induction m with
  | zero => simp [cnt]
  | succ m ih =>
    simp only [cnt, ih, mv]
    by_cases e : R m = b
    · simp [e, Ne.symm h1, Ne.symm h2]
    · simp [e]
theorem Good.self {n : Nat} {P L : Nat → Nat} (g : Good n P L) : Good n L L := ⟨g.ll, g.idem, fun _ _ h => h, g.ll, g.idem, g.idem⟩
structure UI (n : Nat) (P Z R L : Nat → Nat) (G : List Nat) : Prop where
  pl : ∀ i, i < n → P i < n
  rl : ∀ i, i < n → R i < n
  rp : ∀ i, i < n → R (P i) = R i
  fix : ∀ i, i < n → P i = i → R i = i
  pr : ∀ i, i < n → R i = i → P i = i
  rr : ∀ i, i < n → R (R i) = R i
  up : ∀ i, i < n → P i ≠ i → Z i < Z (P i)
  z1 : ∀ i, i < n → 1 ≤ Z i
  zn : ∀ i, i < n → Z i ≤ n
  zc : ∀ i, i < n → R i = i → Z i = cnt R i n
  lr : ∀ i j, i < n → j < n → (L i = L j ↔ R i = R j)
  lg : Good n L L
  gl : ∀ x ∈ G, x < n
  len : G.length + roots L n = n
theorem UI.new (n : Nat) : UI n (fun i => i) (fun _ => 1) (fun i => i) (fun i => i) [] := by
  refine ⟨fun i h => h, fun i h => h, fun _ _ => rfl, fun _ _ _ => rfl, fun _ _ _ => rfl, fun _ _ => rfl, fun i _ h => absurd rfl h, fun _ _ => Nat.le_refl _, fun i h => by omega, ?_, fun _ _ _ _ => Iff.rfl, Good.id n, by simp, by rw [roots_id]; simp⟩
  intro i hi _
  rw [cnt_id, if_pos hi]
theorem UI.join {n : Nat} {P Z R L : Nat → Nat} {G : List Nat} (u : UI n P Z R L G) {a b : Nat} (ha : a < n) (hb : b < n) (ra : R a = a) (rb : R b = b) (hne : a ≠ b) (hz : Z b ≤ Z a) :
    UI n (upd P b a) (upd Z a (Z a + Z b)) (mv R a b) (jn L (L a) (L b)) (G ++ [b]) := by
  have hL : L a ≠ L b := fun e => hne (by have := (u.lr a b ha hb).1 e; omega)
  have zab : Z a + Z b = cnt (mv R a b) a n := by rw [cnt_mv hne, u.zc a ha ra, u.zc b hb rb]
  have zn := cnt_le (mv R a b) a n
  refine ⟨?_, ?_, ?_, ?_, ?_, ?_, ?_, ?_, ?_, ?_, ?_, ?_, ?_, ?_⟩
  · intro i hi
    by_cases e : i = b
    · subst e; rw [upd_same]; exact ha
    · rw [upd_far e]; exact u.pl i hi
  · intro i hi
    unfold mv
    split
    · exact ha
    · exact u.rl i hi
  · intro i hi
    by_cases e : i = b
    · subst e; rw [upd_same]; simp [mv, ra, rb]
    · rw [upd_far e]; simp only [mv, u.rp i hi]
  · intro i hi h
    by_cases e : i = b
    · subst e; rw [upd_same] at h; exact absurd h hne
    · rw [upd_far e] at h
      have := u.fix i hi h
      simp [mv, this, e]
  · intro i hi h
    by_cases e : i = b
    · subst e
      simp [mv, rb] at h
      exact absurd h hne
    · rw [upd_far e]
      unfold mv at h
      split at h
      · subst h; exact u.pr _ ha ra
      · exact u.pr i hi h
  · intro i hi
    by_cases e : R i = b
    · simp [mv, e, ra, hne]
    · simp [mv, e, u.rr i hi]
  · intro i hi h
    by_cases e : i = b
    · subst e
      rw [upd_same, upd_same, upd_far (Ne.symm hne)]
      have := u.z1 a ha
      omega
    · rw [upd_far e] at h ⊢
      have h1 := u.up i hi h
      have hia : i ≠ a := fun e2 => h (by subst e2; exact u.pr _ ha ra)
      rw [upd_far hia]
      by_cases e3 : P i = a
      · rw [e3, upd_same]; rw [e3] at h1; omega
      · rw [upd_far e3]; exact h1
  · intro i hi
    by_cases e : i = a
    · subst e; rw [upd_same]; have := u.z1 i hi; omega
    · rw [upd_far e]; exact u.z1 i hi
  · intro i hi
    by_cases e : i = a
    · subst e; rw [upd_same]; omega
    · rw [upd_far e]; exact u.zn i hi
  · intro i hi h
    by_cases e : i = a
    · subst e; rw [upd_same]; exact zab
    · rw [upd_far e]
      have hib : i ≠ b := by
        intro e2
        subst e2
        simp [mv, rb] at h
        exact hne h
      have hr : R i = i := by
        unfold mv at h
        split at h
        · exact absurd h.symm e
        · exact h
      rw [cnt_mv_other e hib]
      exact u.zc i hi hr
  · intro i j hi hj
    have h1 := u.lr i a hi ha
    have h2 := u.lr i b hi hb
    have h3 := u.lr j a hj ha
    have h4 := u.lr j b hj hb
    have h5 := u.lr i j hi hj
    rw [ra] at h1 h3
    rw [rb] at h2 h4
    unfold jn mv
    generalize L i = li at *
    generalize L j = lj at *
    generalize R i = ri at *
    generalize R j = rj at *
    generalize L a = la at *
    generalize L b = lb at *
    clear zab zn u
    rcases Nat.lt_or_gt_of_ne hL with hl | hl
    · rw [Nat.max_eq_right (Nat.le_of_lt hl), Nat.min_eq_left (Nat.le_of_lt hl)]
      split <;> split <;> split <;> split <;> omega
    · rw [Nat.max_eq_left (Nat.le_of_lt hl), Nat.min_eq_right (Nat.le_of_lt hl)]
      split <;> split <;> split <;> split <;> omega
  · exact (u.lg.unite ha hb hL).self
  · intro x hx
    simp at hx
    rcases hx with hx | rfl
    · exact u.gl x hx
    · exact hb
  · have := roots_join u.lg ha hb hL
    have := u.len
    simp
    omega
/-- sets that were made by unions: each union's state is the one ahead of it, changed; H are the labels ahead of each union in force -/
inductive UF (n : Nat) : (Nat → Nat) → (Nat → Nat) → (Nat → Nat) → (Nat → Nat) → List Nat → List (Nat → Nat) → Prop
  | new : UF n (fun i => i) (fun _ => 1) (fun i => i) (fun i => i) [] []
  | join {P Z R L : Nat → Nat} {G : List Nat} {H : List (Nat → Nat)} {a b : Nat} : UF n P Z R L G H → a < n → b < n → R a = a → R b = b → a ≠ b → Z b ≤ Z a → UF n (upd P b a) (upd Z a (Z a + Z b)) (mv R a b) (jn L (L a) (L b)) (G ++ [b]) (H ++ [L])
theorem UF.inv {n : Nat} {P Z R L : Nat → Nat} {G : List Nat} {H : List (Nat → Nat)} (u : UF n P Z R L G H) : UI n P Z R L G := by
  induction u with
  | new => exact UI.new n
  | join _ ha hb ra rb hne hz ih => exact ih.join ha hb ra rb hne hz
theorem UF.hlen {n : Nat} {P Z R L : Nat → Nat} {G : List Nat} {H : List (Nat → Nat)} (u : UF n P Z R L G H) : H.length = G.length := by
  induction u with
  | new => rfl
  | join _ ha hb ra rb hne hz ih => simp [ih]
/-- the last union undone -/
theorem UF.back {n : Nat} {P Z R L : Nat → Nat} {G : List Nat} {H : List (Nat → Nat)} {b : Nat} (u : UF n P Z R L (G ++ [b]) H) :
    ∃ P0 Z0 R0 L0 H0 a, UF n P0 Z0 R0 L0 G H0 ∧ a < n ∧ b < n ∧ P b = a ∧ a ≠ b ∧ Z a = Z0 a + Z b ∧ Z0 = upd Z a (Z a - Z b) ∧ P0 = upd P b b ∧ H = H0 ++ [L0] := by
  generalize hg : G ++ [b] = K at u
  cases u with
  | new => simp at hg
  | @join P0 Z0 R0 L0 G0 H0 a b0 u0 ha hb ra rb hne hz =>
    obtain ⟨rfl, rfl⟩ : G = G0 ∧ b = b0 := by
      have := List.append_inj' hg rfl
      simp at this
      exact this
    refine ⟨P0, Z0, R0, L0, H0, a, u0, ha, hb, upd_same _ _ _, hne, ?_, ?_, ?_, rfl⟩
    · rw [upd_same, upd_far (Ne.symm hne)]
    · funext i
      by_cases e : i = a
      · subst e; rw [upd_same, upd_same, upd_far (Ne.symm hne)]; omega
      · rw [upd_far e, upd_far e]
    · funext i
      by_cases e : i = b
      · subst e; rw [upd_same]; exact u0.inv.pr _ hb rb
      · rw [upd_far e, upd_far e]
end Go.Proofs.Ytfjmnidenoojhaa
