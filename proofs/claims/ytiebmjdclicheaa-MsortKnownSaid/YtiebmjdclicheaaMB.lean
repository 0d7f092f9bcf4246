/- Merging and sorting, as plain functions. -/
import Derived.Test.YtiebmjdclicheaaGen
set_option linter.unusedVariables false
set_option linter.unusedSimpArgs false
namespace Go.Proofs.Ytiebmjdclicheaa
open Go.RowKit

section
variable {α : Type} (bf : α → α → Bool)
/-- two lists merged, and the pairs of an element of a and one of b that is before it -/
def mrgT (y : α) : List α → List α × List α
  | [] => ([], [])
  | x :: r => if bf y x then ([], x :: r) else (x :: (mrgT y r).1, (mrgT y r).2)
def mrg : List α → List α → List α × Nat
  | a, [] => (a, 0)
  | a, y :: b => ((mrgT bf y a).1 ++ y :: (mrg (mrgT bf y a).2 b).1, (mrgT bf y a).2.length + (mrg (mrgT bf y a).2 b).2)
theorem mrg_step {x y : α} (h : bf y x = false) (r b : List α) : mrg bf (x :: r) (y :: b) = (x :: (mrg bf r (y :: b)).1, (mrg bf r (y :: b)).2) := by
  simp [mrg, mrgT, h]
theorem mrg_take {y : α} {a : List α} (h : a = [] ∨ ∃ x r, a = x :: r ∧ bf y x = true) (b : List α) : mrg bf a (y :: b) = (y :: (mrg bf a b).1, a.length + (mrg bf a b).2) := by
  rcases h with rfl | ⟨x, r, rfl, h⟩
  · simp [mrg, mrgT]
  · simp [mrg, mrgT, h]
theorem mrgT_len (y : α) : ∀ a : List α, (mrgT bf y a).1.length + (mrgT bf y a).2.length = a.length
  | [] => rfl
  | x :: r => by
    unfold mrgT
    split
    · simp
    · have := mrgT_len y r; simp; omega
theorem mrg_len : ∀ (b a : List α), (mrg bf a b).1.length = a.length + b.length
  | [], a => by simp [mrg]
  | y :: b, a => by
    have h1 := mrg_len b (mrgT bf y a).2
    have h2 := mrgT_len bf y a
    simp [mrg, h1]; omega
theorem mrg_inv : ∀ (b a : List α), (mrg bf a b).2 ≤ a.length * b.length
  | [], a => by simp [mrg]
  | y :: b, a => by
    have h1 := mrg_inv b (mrgT bf y a).2
    have h2 := mrgT_len bf y a
    have h3 : (mrgT bf y a).2.length * b.length ≤ a.length * b.length := Nat.mul_le_mul_right _ (by omega)
    have h4 : a.length * (b.length + 1) = a.length * b.length + a.length := Nat.mul_succ _ _
    simp only [mrg, List.length_cons]
    omega
/-- the list in order, and its inversions -/
def srt : Nat → List α → List α × Nat
  | 0, l => (l, 0)
  | f + 1, l => if l.length < 2 then (l, 0) else
    ((mrg bf (srt f (l.take (l.length / 2))).1 (srt f (l.drop (l.length / 2))).1).1,
      (srt f (l.take (l.length / 2))).2 + (srt f (l.drop (l.length / 2))).2 + (mrg bf (srt f (l.take (l.length / 2))).1 (srt f (l.drop (l.length / 2))).1).2)
theorem srt_len : ∀ (f : Nat) (l : List α), (srt bf f l).1.length = l.length
  | 0, _ => rfl
  | f + 1, l => by
    unfold srt
    split
    · rfl
    · rw [mrg_len, srt_len f, srt_len f]; simp; omega
theorem srt_inv : ∀ (f : Nat) (l : List α), (srt bf f l).2 ≤ l.length * l.length
  | 0, _ => Nat.zero_le _
  | f + 1, l => by
    unfold srt
    split
    · exact Nat.zero_le _
    · have h1 := srt_inv f (l.take (l.length / 2))
      have h2 := srt_inv f (l.drop (l.length / 2))
      have h3 := mrg_inv bf (srt bf f (l.drop (l.length / 2))).1 (srt bf f (l.take (l.length / 2))).1
      rw [srt_len, srt_len] at h3
      have e1 : (l.take (l.length / 2)).length = l.length / 2 := by simp; omega
      have e2 : (l.drop (l.length / 2)).length = l.length - l.length / 2 := by simp
      rw [e1] at h1 h3
      rw [e2] at h2 h3
      obtain ⟨p, hp⟩ : ∃ p, p = l.length / 2 := ⟨_, rfl⟩
      obtain ⟨q, hq⟩ : ∃ q, q = l.length - l.length / 2 := ⟨_, rfl⟩
      rw [← hp] at h1 h2 h3 hq ⊢
      rw [← hq] at h2 h3
      have hl : l.length = p + q := by omega
      have hx : l.length * l.length = p * p + p * q + (q * p + q * q) := by rw [hl, Nat.add_mul, Nat.mul_add, Nat.mul_add]
      have hc : q * p = p * q := Nat.mul_comm _ _
      rw [hx]
      dsimp only
      omega
/-- what has been merged so far, with what is left -/
def Part (a b : List α) (i j : Nat) (out : List α) (n : Nat) : Prop := out ++ (mrg bf (a.drop i) (b.drop j)).1 = (mrg bf a b).1 ∧ n + (mrg bf (a.drop i) (b.drop j)).2 = (mrg bf a b).2
theorem Part.start (a b : List α) : Part bf a b 0 0 [] 0 := by unfold Part; simp
theorem drop_at {l : List α} {i : Nat} {x : α} (h : l[i]? = some x) : l.drop i = x :: l.drop (i + 1) := by
  obtain ⟨hi, rfl⟩ := List.getElem?_eq_some_iff.1 h
  exact List.drop_eq_getElem_cons hi
theorem Part.skip {bf : α → α → Bool} {a b : List α} {i j : Nat} {out : List α} {n : Nat} (h : Part bf a b i j out n) {x y : α} (hx : a[i]? = some x) (hy : b[j]? = some y) (hb : bf y x = false) : Part bf a b (i + 1) j (out ++ [x]) n := by
  unfold Part at h ⊢
  rw [drop_at hx, drop_at hy, mrg_step bf hb] at h
  rw [drop_at hy]
  simpa using h
theorem Part.next {bf : α → α → Bool} {a b : List α} {i j : Nat} {out : List α} {n : Nat} (h : Part bf a b i j out n) {y : α} (hy : b[j]? = some y) (hb : a.length ≤ i ∨ ∃ x, a[i]? = some x ∧ bf y x = true) : Part bf a b i (j + 1) (out ++ [y]) (n + (a.length - i)) := by
  unfold Part at h ⊢
  rw [drop_at hy, mrg_take bf (by
    rcases hb with hb | ⟨x, hx, hb⟩
    · exact .inl (List.drop_eq_nil_of_le hb)
    · exact .inr ⟨x, _, drop_at hx, hb⟩)] at h
  simp at h ⊢
  exact ⟨h.1, by omega⟩
theorem Part.done {bf : α → α → Bool} {a b : List α} {i : Nat} {out : List α} {n : Nat} (h : Part bf a b i b.length out n) : out ++ a.drop i = (mrg bf a b).1 ∧ n = (mrg bf a b).2 := by
  unfold Part at h
  rw [List.drop_eq_nil_of_le (Nat.le_refl _)] at h
  simpa [mrg] using h
end
end Go.Proofs.Ytiebmjdclicheaa
