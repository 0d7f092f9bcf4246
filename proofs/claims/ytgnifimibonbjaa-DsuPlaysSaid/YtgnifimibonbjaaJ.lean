/- The groups as values, after k elements; what the list contains. -/
import Derived.Test.YtgnifimibonbjaaI
import Derived.Test.YtgnifimibonbjaaA
set_option linter.unusedVariables false
set_option linter.unusedSimpArgs false
namespace Go.Proofs.Ytgnifimibonbjaa

/-- the group of the root m when k elements have been met: a part of the list at gl -/
def gv (gl : Nat) (L : Nat → Nat) (n k m : Nat) : Value := .slice (some ⟨gl, st L n m, none⟩) (cnt L m k) (cnt L m n)
/-- the groups of the roots below m -/
def gvs (gl : Nat) (L : Nat → Nat) (n k : Nat) : Nat → List Value
  | 0 => []
  | m + 1 => gvs gl L n k m ++ if L m = m then [gv gl L n k m] else []
theorem gvs_len (gl : Nat) (L : Nat → Nat) (n k : Nat) : ∀ m, (gvs gl L n k m).length = roots L m := by
  intro m
  induction m with
  | zero => rfl
  | succ m ih => simp only [gvs, roots, List.length_append, ih]; split <;> simp
theorem gvs_get {gl : Nat} {L : Nat → Nat} {n k r : Nat} (hr : L r = r) : ∀ m, r < m → (gvs gl L n k m)[roots L r]? = some (gv gl L n k r) := by
  intro m hm
  induction m with
  | zero => omega
  | succ m ih =>
    simp only [gvs]
    by_cases e : r = m
    · subst e
      rw [if_pos hr, List.getElem?_append_right (by rw [gvs_len]; omega), gvs_len]
      simp
    · rw [List.getElem?_append_left (by rw [gvs_len]; exact roots_lt hr (by omega))]
      exact ih (by omega)
theorem gvs_one (gl : Nat) (L : Nat → Nat) (n k : Nat) : ∀ m, ∀ u ∈ gvs gl L n k m, u.oneCell' = true := by
  intro m
  induction m with
  | zero => intro u hu; simp [gvs] at hu
  | succ m ih =>
    intro u hu
    simp only [gvs, List.mem_append] at hu
    rcases hu with hu | hu
    · exact ih u hu
    · split at hu
      · simp at hu; subst hu; rfl
      · simp at hu
/-- one more element of a set that has been met -/
theorem gvs_more {gl : Nat} {L : Nat → Nat} {n i r : Nat} (hi : L i = r) (hr : L r = r) (h : r < i) : ∀ m, r < m → (gvs gl L n i m).set (roots L r) (gv gl L n (i + 1) r) = gvs gl L n (i + 1) m := by
  have other : ∀ x, x ≠ r → gv gl L n i x = gv gl L n (i + 1) x := by
    intro x hx
    unfold gv
    simp only [cnt]
    rw [if_neg (by omega), Nat.add_zero]
  have before : ∀ m, m ≤ r → gvs gl L n i m = gvs gl L n (i + 1) m := by
    intro m hm
    induction m with
    | zero => rfl
    | succ m ih => simp only [gvs, ih (by omega), other m (by omega)]
  intro m hm
  induction m with
  | zero => omega
  | succ m ih =>
    simp only [gvs]
    by_cases e : r = m
    · subst e
      rw [if_pos hr, if_pos hr, List.set_append_right _ _ (by rw [gvs_len]; omega), gvs_len, before r (Nat.le_refl _)]
      simp
    · rw [List.set_append_left _ _ (by rw [gvs_len]; exact roots_lt hr (by omega)), ih (by omega), other m (Ne.symm e)]
theorem gvs_same {gl : Nat} {L : Nat → Nat} {n i : Nat} : ∀ m, (∀ x, x < m → L i ≠ x) → gvs gl L n i m = gvs gl L n (i + 1) m := by
  intro m hm
  induction m with
  | zero => rfl
  | succ m ih =>
    have h1 := hm m (by omega)
    simp only [gvs, ih (fun x hx => hm x (by omega)), gv, cnt, if_neg h1, Nat.add_zero]
/-- a set of which no element has been met -/
theorem cnt_none {L : Nat → Nat} {i : Nat} (le : ∀ j, j < i → L j ≤ j) : cnt L i i = 0 := by
  have : ∀ k, k ≤ i → cnt L i k = 0 := by
    intro k hk
    induction k with
    | zero => rfl
    | succ k ih => simp only [cnt, ih (by omega)]; rw [if_neg (by have := le k (by omega); omega)]
  exact this i (Nat.le_refl _)
/-- the list contains the elements that have been met, each in its place -/
def Fill (L : Nat → Nat) (n k : Nat) (F : Nat → Nat) : Prop := ∀ j, j < k → F (st L n (L j) + cnt L (L j) j) = j
theorem cnt_lt {L : Nat → Nat} {i j : Nat} (h : j < i) : cnt L (L j) j < cnt L (L j) i := by
  have := cnt_mono L (L j) (j + 1) i (by omega)
  simp only [cnt, if_pos] at this
  omega
theorem Fill.next {L : Nat → Nat} {n i : Nat} {F : Nat → Nat} (f : Fill L n i F) (idem : ∀ i, i < n → L (L i) = L i) (hi : i < n) : Fill L n (i + 1) (upd F (st L n (L i) + cnt L (L i) i) i) := by
  intro j hj
  by_cases e : j = i
  · subst e; rw [upd_same]
  · have hji : j < i := by omega
    rw [upd_far, f j hji]
    intro h
    have c1 := cnt_lt (L := L) hji
    have r1 := cnt_room (L := L) (n := n) (i := j) (by omega)
    have r2 := cnt_room (L := L) (n := n) (i := i) hi
    rcases Nat.lt_trichotomy (L j) (L i) with hl | hl | hl
    · have := st_apart (n := n) (idem j (by omega)) hl; omega
    · rw [hl] at h c1; omega
    · have := st_apart (n := n) (idem i hi) hl; omega
end Go.Proofs.Ytgnifimibonbjaa
