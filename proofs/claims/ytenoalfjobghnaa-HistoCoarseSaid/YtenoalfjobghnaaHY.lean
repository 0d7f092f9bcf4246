/- What a bound less changes. -/
import Derived.Test.YtenoalfjobghnaaHX
set_option linter.unusedVariables false
set_option linter.unusedSimpArgs false
namespace Go.Proofs.Ytenoalfjobghnaa
open Go.RowKit

theorem lit1 (a : Int) (w : World) : (Instr.buildSlice 22 1 #[(0, .int .i64 a)]).run Try.prog w = .ok (.slice (some ⟨w.heap.size, 0, none⟩) 1 1) (w.alloc (.cells #[.int .i64 a] 2)) := by kernel_rfl
theorem bk_sp {V : Nat → Int} {x : Int} : ∀ m, Inc V m → (∀ i, i < bk V x m → V i ≤ x) ∧ ∀ i, bk V x m ≤ i → i < m → x < V i := by
  intro m
  induction m with
  | zero => intro _; exact ⟨fun i hi => absurd hi (by simp [bk]), fun i _ hi => absurd hi (by omega)⟩
  | succ m ih =>
    intro inc
    have h := ih (fun i j a b => inc i j a (by omega))
    by_cases e : V m ≤ x
    · have all : ∀ i, i < m + 1 → V i ≤ x := fun i hi => by
        by_cases q : i = m
        · subst q; exact e
        · exact Int.le_trans (Int.le_of_lt (inc i m (by omega) (by omega))) e
      rw [bk_all (m + 1) all]
      exact ⟨all, fun i a b => absurd a (by omega)⟩
    · simp only [bk, if_neg e, Nat.add_zero]
      refine ⟨h.1, fun i a b => ?_⟩
      by_cases q : i = m
      · subst q; omega
      · exact h.2 i a (by omega)
theorem bk_cut {V : Nat → Int} {m i : Nat} (inc : Inc V m) (hi : i < m) (x : Int) : bk (cut V i) x (m - 1) = if bk V x m ≤ i then bk V x m else bk V x m - 1 := by
  have sp := bk_sp (x := x) m inc
  have le := bk_le V x m
  by_cases h : bk V x m ≤ i
  · rw [if_pos h]
    refine bk_eq (by omega) (fun j hj => ?_) (fun j h1 h2 => ?_)
    · unfold cut; rw [if_pos (by omega)]; exact sp.1 j hj
    · unfold cut
      by_cases q : j < i
      · rw [if_pos q]; exact sp.2 j h1 (by omega)
      · rw [if_neg q]; exact sp.2 (j + 1) (by omega) (by omega)
  · rw [if_neg h]
    refine bk_eq (by omega) (fun j hj => ?_) (fun j h1 h2 => ?_)
    · unfold cut
      by_cases q : j < i
      · rw [if_pos q]; exact sp.1 j (by omega)
      · rw [if_neg q]; exact sp.1 (j + 1) (by omega)
    · unfold cut; rw [if_neg (by omega)]; exact sp.2 (j + 1) (by omega) (by omega)
theorem mrg_sum' (C : Nat → Int) {m i : Nat} (hi : i < m) : sumI (mrg C i) (m - 1 + 1) = sumI C (m + 1) := by
  rw [show m - 1 + 1 = m by omega]; exact mrg_sum C i m hi
theorem addE_mrg (C : Nat → Int) {m i : Nat} (hi : i < m) (t : Int) : addE (mrg C i) (m - 1) t = addE C m t := by
  unfold addE; rw [mrg_sum' C hi]
theorem okA_mrg (C : Nat → Int) {m i : Nat} (hi : i < m) (t : Int) : okA (mrg C i) (m - 1) t ↔ okA C m t := by
  unfold okA; rw [mrg_sum' C hi]
theorem upd_mrg (C : Nat → Int) (i r : Nat) (t : Int) : updI (mrg C i) (if r ≤ i then r else r - 1) (mrg C i (if r ≤ i then r else r - 1) + t) = mrg (updI C r (C r + t)) i := by
  funext j
  by_cases hr : r ≤ i
  · rw [if_pos hr]
    unfold updI mrg
    dsimp only
    rcases Nat.lt_trichotomy j i with h | h | h
    · rw [if_pos h, if_pos h]
      by_cases e : j = r
      · subst e; rw [if_pos rfl, if_pos h, if_pos rfl]
      · rw [if_neg e, if_neg e]
    · subst h
      rw [if_neg (Nat.lt_irrefl j), if_pos rfl, if_neg (Nat.lt_irrefl j), if_pos rfl, if_neg (show ¬ j + 1 = r by omega)]
      by_cases e : j = r
      · subst e; rw [if_pos rfl, if_neg (Nat.lt_irrefl j), if_pos rfl, if_pos rfl]; omega
      · rw [if_neg e, if_neg e]
    · rw [if_neg (show ¬ j = r by omega), if_neg (show ¬ j < i by omega), if_neg (show ¬ j = i by omega), if_neg (show ¬ j < i by omega), if_neg (show ¬ j = i by omega), if_neg (show ¬ j + 1 = r by omega)]
  · rw [if_neg hr]
    unfold updI mrg
    dsimp only
    rcases Nat.lt_trichotomy j i with h | h | h
    · rw [if_neg (show ¬ j = r - 1 by omega), if_pos h, if_pos h, if_neg (show ¬ j = r by omega)]
    · subst h
      rw [if_neg (Nat.lt_irrefl j), if_pos rfl, if_neg (Nat.lt_irrefl j), if_pos rfl, if_neg (show ¬ j = r by omega)]
      by_cases e : j + 1 = r
      · have e2 : j = r - 1 := by omega
        rw [if_pos e2, ← e2, if_neg (Nat.lt_irrefl j), if_pos rfl, if_pos e, ← e]; omega
      · rw [if_neg (show ¬ j = r - 1 by omega), if_neg e]
    · rw [if_neg (show ¬ j < i by omega), if_neg (show ¬ j = i by omega), if_neg (show ¬ j < i by omega), if_neg (show ¬ j = i by omega)]
      by_cases e : j + 1 = r
      · have e2 : j = r - 1 := by omega
        rw [if_pos e2, ← e2, if_neg (show ¬ j < i by omega), if_neg (show ¬ j = i by omega), if_pos e, ← e]
      · rw [if_neg (show ¬ j = r - 1 by omega), if_neg e]
theorem addF_mrg {V C : Nat → Int} {m i : Nat} (inc : Inc V m) (hi : i < m) (x t : Int) : addF (cut V i) (m - 1) (mrg C i) x t = mrg (addF V m C x t) i := by
  unfold addF
  by_cases ok : okA C m t
  · rw [if_pos ok, if_pos ((okA_mrg C hi t).2 ok), bk_cut inc hi x, upd_mrg]
  · rw [if_neg ok, if_neg (fun h => ok ((okA_mrg C hi t).1 h))]
theorem intsI_snoc (n : Nat) (f : Nat → Int) : intsI (n + 1) f = intsI n f ++ [.int .i64 (f n)] := by
  unfold intsI; rw [List.range_succ, List.map_append]; rfl
/-- how many of the first k bounds are kept -/
def cnt (i k : Nat) : Nat := if k ≤ i then k else k - 1
theorem cut_cnt (V : Nat → Int) {i k : Nat} (h : k ≠ i) : cut V i (cnt i k) = V k := by
  unfold cut cnt
  by_cases q : k ≤ i
  · rw [if_pos q, if_pos (by omega)]
  · rw [if_neg q, if_neg (by omega), show k - 1 + 1 = k by omega]
theorem cnt_next {i k : Nat} (h : k ≠ i) : cnt i (k + 1) = cnt i k + 1 := by
  unfold cnt
  by_cases q : k ≤ i
  · rw [if_pos q, if_pos (by omega)]
  · rw [if_neg q, if_neg (by omega)]; omega
theorem cnt_skip (i : Nat) : cnt i (i + 1) = cnt i i := by unfold cnt; rw [if_neg (by omega), if_pos (Nat.le_refl _)]; omega
theorem cnt_end {i m : Nat} (h : i < m) : cnt i m = m - 1 := by unfold cnt; rw [if_neg (by omega)]
theorem cnt_le (i k : Nat) : cnt i k ≤ k := by unfold cnt; split <;> omega
end Go.Proofs.Ytenoalfjobghnaa
