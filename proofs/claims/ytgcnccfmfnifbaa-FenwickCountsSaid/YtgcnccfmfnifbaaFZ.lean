/- Counts of units. -/
import Derived.Test.YtgcnccfmfnifbaaFY
set_option linter.unusedVariables false
set_option linter.unusedSimpArgs false
namespace Go.Proofs.Ytgcnccfmfnifbaa
open Go.RowKit

theorem infoU : (Try.prog.info? 51).map (fun i => (i.zero, i.size, i.bytes)) = some (some (.int .u16 0), 1, 2) := by kernel_rfl
theorem infoN : (Try.prog.info? 3).map (fun i => (i.zero, i.size, i.bytes)) = some (some (.int .i64 0), 1, 8) := by kernel_rfl
theorem make_U (n : Nat) (h : n ≤ 65536) (w : World) : (Instr.makeSlice 50 (.int .i64 (n : Int)) (.int .i64 (n : Int))).run Try.prog w = .ok (.slice (some ⟨w.heap.size, 0, none⟩) n n) (w.alloc (.cells (madeCells #[.int .u16 0] n) 51)) :=
  run_make_row' 50 51 (.int .u16 0) 2 Try.underlying50 infoU rfl .i64 .i64 n (by omega) (by omega) w
theorem make_N (n : Nat) (h : n ≤ 65536) (w : World) : (Instr.makeSlice 55 (.int .i64 (n : Int)) (.int .i64 (n : Int))).run Try.prog w = .ok (.slice (some ⟨w.heap.size, 0, none⟩) n n) (w.alloc (.cells (madeCells #[.int .i64 0] n) 3)) :=
  run_make_row' 55 3 (.int .i64 0) 8 Try.underlying55 infoN rfl .i64 .i64 n (by omega) (by omega) w
/-- the first I numbers of a list, the others 0 -/
def smF (k : IntKind) (M : Nat → Int) (I : Nat) : Nat → Value := fun j => .int k (if j < I then M j else 0)
theorem smF_0 (k : IntKind) (M : Nat → Int) : smF k M 0 = fun _ => .int k 0 := by funext j; simp [smF]
theorem smF_upd (k : IntKind) (M : Nat → Int) (I : Nat) : updV (smF k M I) I (.int k (M I)) = smF k M (I + 1) := by
  funext j
  unfold updV smF
  by_cases e : j = I
  · subst e; simp
  · rw [if_neg e]
    by_cases g : j < I
    · rw [if_pos g, if_pos (by omega)]
    · rw [if_neg g, if_neg (by omega)]
/-- how many of the first X units lie in counter j -/
def cnt (C : Nat → Int) (X : Int) (j : Nat) : Int := max 0 (min (C j) (X - sumS C j))
theorem cnt_0 {C : Nat → Int} (h : ∀ i, 0 ≤ C i) (j : Nat) : cnt C 0 j = 0 := by
  have := sumS_mono h (Nat.zero_le j)
  have e : sumS C 0 = 0 := rfl
  unfold cnt; omega
theorem cnt_all {C : Nat → Int} (h : ∀ i, 0 ≤ C i) {n j : Nat} (hj : j < n) : cnt C (sumS C n) j = C j := by
  have a := sumS_mono h (show j + 1 ≤ n by omega)
  have e : sumS C (j + 1) = sumS C j + C j := rfl
  have := h j
  unfold cnt; omega
def cntF (C : Nat → Int) (X : Int) : Nat → Value := fun j => .int .i64 (cnt C X j)
theorem cntF_0 {C : Nat → Int} (h : ∀ i, 0 ≤ C i) : cntF C 0 = fun _ => .int .i64 0 := by funext j; simp [cntF, cnt_0 h]
theorem cnt_at {C : Nat → Int} {i : Nat} {X : Int} (h1 : sumS C i ≤ X) (h2 : X < sumS C (i + 1)) : cnt C X i = X - sumS C i := by
  have e : sumS C (i + 1) = sumS C i + C i := rfl
  unfold cnt; omega
theorem cntF_upd {C : Nat → Int} (h : ∀ i, 0 ≤ C i) {i : Nat} {X : Int} (h1 : sumS C i ≤ X) (h2 : X < sumS C (i + 1)) : updV (cntF C X) i (.int .i64 (cnt C X i + 1)) = cntF C (X + 1) := by
  funext j
  unfold updV cntF
  have e : sumS C (i + 1) = sumS C i + C i := rfl
  by_cases ej : j = i
  · subst ej
    simp only [if_pos]
    congr 1
    unfold cnt; omega
  · rw [if_neg ej]
    congr 1
    by_cases g : j < i
    · have a := sumS_mono h (show j + 1 ≤ i by omega)
      have e' : sumS C (j + 1) = sumS C j + C j := rfl
      have := h j
      unfold cnt; omega
    · have a := sumS_mono h (show i + 1 ≤ j by omega)
      have := h j
      unfold cnt; omega
theorem found_le {C : Nat → Int} (h : ∀ i, 0 ≤ C i) {L i : Nat} {X : Int} (h1 : sumS C L ≤ X) (h2 : X < sumS C (i + 1)) : L ≤ i := by
  by_cases g : L ≤ i
  · exact g
  · have := sumS_mono h (show i + 1 ≤ L by omega)
    omega
theorem rd16_own {w : World} {B g len : Nat} {M : Nat → Int} {I : Nat} (hI : I = len) (hr : w.ownsRow B 51 1 (.slice (some ⟨g, 0, none⟩) len len) len (rowV len (smF .u16 M I))) (hM : ∀ i, i < len → 0 ≤ M i ∧ M i ≤ 65535) : Rd16 w (some ⟨g, 0, none⟩) len (fun i _ => M i) := by
  by_cases h0 : len = 0
  · exact .inl h0
  · refine .inr ⟨g, 0, rfl, (hr.lt g rfl).2, fun i hi => ?_⟩
    obtain ⟨_, hpp, e1, _⟩ := row_cell hr hi
    injection hpp with hpp; injection hpp with hpp; subst hpp
    rw [rowV_get _ hi, smF, if_pos (by omega)] at e1
    rw [Nat.zero_add]
    exact ⟨e1, hM i hi⟩
end Go.Proofs.Ytgcnccfmfnifbaa
