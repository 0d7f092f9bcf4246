/- Parts of a list; the first laws of a sorted list. -/
import Derived.Test.YtiebmjdclicheaaMX
set_option linter.unusedVariables false
set_option linter.unusedSimpArgs false
namespace Go.Proofs.Ytiebmjdclicheaa
open Go.RowKit

theorem size31 (W : World) : (sizeOf (Try.prog.elem 31)).run Try.prog W = .ok 4 W := by kernel_rfl
theorem elem31 : Try.prog.underlying 31 = some (.slice (Try.prog.elem 31)) := by kernel_rfl
theorem HR.lo {w : World} {v : Value} {l : List R4} {i : Nat} (h : HR w v l) (hi : i ≤ l.length) : ∃ v1, (∀ W, (Instr.slice 31 v none (some (.int .i64 (i : Int))) none).run Try.prog W = .ok v1 W) ∧ HR w v1 (l.take i) := by
  obtain ⟨p, c, rfl, hc, hr⟩ := h
  have hl : (l.take i).length = i := by simp; omega
  refine ⟨sliced p 0 i c 4, fun W => ?_, ?_⟩
  · rw [run_slice_h W 31 p l.length c elem31 .i64 (i : Int) (by omega) (by omega), size31]
    rfl
  · refine ⟨_, c, by unfold sliced; rw [hl, Nat.sub_zero, Nat.sub_zero], by rw [hl]; omega, ?_⟩
    rcases hr with rfl | ⟨b, off, rfl, hb, hcell⟩
    · exact .inl (by simp)
    · refine .inr ⟨b, off, by split <;> simp [Addr.add], hb, fun j x hx => hcell j x ?_⟩
      rw [List.getElem?_take] at hx; split at hx
      · exact hx
      · cases hx
theorem HR.hi {w : World} {v : Value} {l : List R4} {i : Nat} (h : HR w v l) (hi : i ≤ l.length) : ∃ v1, (∀ W, (Instr.slice 31 v (some (.int .i64 (i : Int))) none none).run Try.prog W = .ok v1 W) ∧ HR w v1 (l.drop i) := by
  obtain ⟨p, c, rfl, hc, hr⟩ := h
  have hl : (l.drop i).length = l.length - i := by simp
  refine ⟨sliced p i l.length c 4, fun W => ?_, ?_⟩
  · rw [run_slice_l W 31 p l.length c elem31 .i64 (i : Int) (by omega) (by omega), size31]
    rfl
  · refine ⟨_, c - i, by unfold sliced; rw [hl], by rw [hl]; omega, ?_⟩
    rcases hr with rfl | ⟨b, off, rfl, hb, hcell⟩
    · exact .inl (by simp)
    · by_cases hci : c = i
      · exact .inl (List.drop_eq_nil_of_le (by omega))
      · refine .inr ⟨b, off + i * 4, by rw [if_neg hci]; simp [Addr.add], hb, fun j x hx => ?_⟩
        rw [List.getElem?_drop] at hx
        have := hcell (i + j) x hx
        rw [show off + i * 4 + j * 4 = off + (i + j) * 4 by omega]
        exact this
theorem sortA_ord {k : Int} {l : List R4} (h : chk l.length k = 0) : Orr (bef k) (sortA k l) := by rw [sortA_ok h]; exact (srt_st (bef_weak k) _ _ (Nat.le_refl _)).1
theorem sortA_len {k : Int} {l : List R4} (h : chk l.length k = 0) : (sortA k l).length = l.length := by rw [sortA_ok h, srt_len]
theorem mergeE_parts {k : Int} {a b : List R4} (hk : KOK k) (hn : a.length + b.length ≤ 65536) : mergeE k (sortA k a) (sortA k b) = 0 := by
  have ca : chk a.length k = 0 := chk_ok hk (by omega)
  have cb : chk b.length k = 0 := chk_ok hk (by omega)
  unfold mergeE
  rw [sortA_len ca, sortA_len cb, if_pos (chk_ok hk hn), if_pos ⟨inO_iff.2 (sortA_ord ca), inO_iff.2 (sortA_ord cb)⟩]
theorem mergeA_parts {k : Int} {a b : List R4} (hk : KOK k) (hn : a.length + b.length ≤ 65536) : mergeA k (sortA k a) (sortA k b) = sortA k (a ++ b) := by
  have ca : chk a.length k = 0 := chk_ok hk (by omega)
  have cb : chk b.length k = 0 := chk_ok hk (by omega)
  unfold mergeA
  rw [if_pos (mergeE_parts hk hn), sortA_ok ca, sortA_ok cb, sortA_ok (by rw [List.length_append]; exact chk_ok hk hn)]
  exact mrg_srt (bef_weak k) a b
end Go.Proofs.Ytiebmjdclicheaa
