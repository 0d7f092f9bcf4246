/- The examples hold. -/
import Derived.Test.YthgeccmphnppgaaI
set_option linter.unusedVariables false
set_option linter.unusedSimpArgs false
namespace Go.Proofs.Ythgeccmphnppgaa
open Go.RowKit

theorem mk22_5 (t0 t1 t2 t3 t4 : E3) (w : World) : (Instr.buildSlice 22 5 #[(0, .agg #[.int .i64 t0.1, .int .i64 t0.2.1, .int .i64 t0.2.2]), (1, .agg #[.int .i64 t1.1, .int .i64 t1.2.1, .int .i64 t1.2.2]), (2, .agg #[.int .i64 t2.1, .int .i64 t2.2.1, .int .i64 t2.2.2]), (3, .agg #[.int .i64 t3.1, .int .i64 t3.2.1, .int .i64 t3.2.2]), (4, .agg #[.int .i64 t4.1, .int .i64 t4.2.1, .int .i64 t4.2.2])]).run Try.prog w = .ok (.slice (some ⟨w.heap.size, 0, none⟩) 5 5) (w.alloc (.cells #[.int .i64 t0.1, .int .i64 t0.2.1, .int .i64 t0.2.2, .int .i64 t1.1, .int .i64 t1.2.1, .int .i64 t1.2.2, .int .i64 t2.1, .int .i64 t2.2.1, .int .i64 t2.2.2, .int .i64 t3.1, .int .i64 t3.2.1, .int .i64 t3.2.2, .int .i64 t4.1, .int .i64 t4.2.1, .int .i64 t4.2.2] 50)) := by kernel_rfl
theorem wpList_m22_5 {w : World} {ops : Array Oper} {rest : List Oper} {o : Oper} {a : Act} {Q : Exit → Act → World → Prop} (hgd : Region.wanted o (yielded ops a.tmps) = true) (x0 x1 x2 x3 x4 : Operand) (t0 t1 t2 t3 t4 : E3) (ho : o.op = .buildSlice 22 5 #[(0, x0), (1, x1), (2, x2), (3, x3), (4, x4)]) (hx0 : a.eval x0 = .agg #[.int .i64 t0.1, .int .i64 t0.2.1, .int .i64 t0.2.2]) (hx1 : a.eval x1 = .agg #[.int .i64 t1.1, .int .i64 t1.2.1, .int .i64 t1.2.2]) (hx2 : a.eval x2 = .agg #[.int .i64 t2.1, .int .i64 t2.2.1, .int .i64 t2.2.2]) (hx3 : a.eval x3 = .agg #[.int .i64 t3.1, .int .i64 t3.2.1, .int .i64 t3.2.2]) (hx4 : a.eval x4 = .agg #[.int .i64 t4.1, .int .i64 t4.2.1, .int .i64 t4.2.2])
    (h : wpList Try.prog ops Q rest (a.put o.dst (.slice (some ⟨w.heap.size, 0, none⟩) 5 5)) (w.alloc (.cells #[.int .i64 t0.1, .int .i64 t0.2.1, .int .i64 t0.2.2, .int .i64 t1.1, .int .i64 t1.2.1, .int .i64 t1.2.2, .int .i64 t2.1, .int .i64 t2.2.1, .int .i64 t2.2.2, .int .i64 t3.1, .int .i64 t3.2.1, .int .i64 t3.2.2, .int .i64 t4.1, .int .i64 t4.2.1, .int .i64 t4.2.2] 50))) : wpList Try.prog ops Q (o :: rest) a w := by
  refine wpList_step fun K hK => ?_
  rw [if_pos hgd]
  have hr := mk22_5 t0 t1 t2 t3 t4 w
  unfold Oper.wp
  simp only [execOp, ho]
  simp [hx0, hx1, hx2, hx3, hx4, hr, Result.andThen, Sem.run_bind]
  exact hK _ _ h
theorem rd22_5 (t0 t1 t2 t3 t4 : E3) (w : World) : RdE (w.alloc (.cells #[.int .i64 t0.1, .int .i64 t0.2.1, .int .i64 t0.2.2, .int .i64 t1.1, .int .i64 t1.2.1, .int .i64 t1.2.2, .int .i64 t2.1, .int .i64 t2.2.1, .int .i64 t2.2.2, .int .i64 t3.1, .int .i64 t3.2.1, .int .i64 t3.2.2, .int .i64 t4.1, .int .i64 t4.2.1, .int .i64 t4.2.2] 50)) (.slice (some ⟨w.heap.size, 0, none⟩) 5 5) [t0, t1, t2, t3, t4] := by
  refine ⟨some ⟨w.heap.size, 0, none⟩, 5, rfl, .inr ⟨w.heap.size, 0, rfl, by simp, fun i t hi => ?_⟩⟩
  match i, hi with
  | 0, hi => simp at hi; subst hi; simp [go_sem]
  | 1, hi => simp at hi; subst hi; simp [go_sem]
  | 2, hi => simp at hi; subst hi; simp [go_sem]
  | 3, hi => simp at hi; subst hi; simp [go_sem]
  | 4, hi => simp at hi; subst hi; simp [go_sem]
  | i + 5, hi => simp at hi
theorem mk22_6 (t0 t1 t2 t3 t4 t5 : E3) (w : World) : (Instr.buildSlice 22 6 #[(0, .agg #[.int .i64 t0.1, .int .i64 t0.2.1, .int .i64 t0.2.2]), (1, .agg #[.int .i64 t1.1, .int .i64 t1.2.1, .int .i64 t1.2.2]), (2, .agg #[.int .i64 t2.1, .int .i64 t2.2.1, .int .i64 t2.2.2]), (3, .agg #[.int .i64 t3.1, .int .i64 t3.2.1, .int .i64 t3.2.2]), (4, .agg #[.int .i64 t4.1, .int .i64 t4.2.1, .int .i64 t4.2.2]), (5, .agg #[.int .i64 t5.1, .int .i64 t5.2.1, .int .i64 t5.2.2])]).run Try.prog w = .ok (.slice (some ⟨w.heap.size, 0, none⟩) 6 6) (w.alloc (.cells #[.int .i64 t0.1, .int .i64 t0.2.1, .int .i64 t0.2.2, .int .i64 t1.1, .int .i64 t1.2.1, .int .i64 t1.2.2, .int .i64 t2.1, .int .i64 t2.2.1, .int .i64 t2.2.2, .int .i64 t3.1, .int .i64 t3.2.1, .int .i64 t3.2.2, .int .i64 t4.1, .int .i64 t4.2.1, .int .i64 t4.2.2, .int .i64 t5.1, .int .i64 t5.2.1, .int .i64 t5.2.2] 50)) := by kernel_rfl
theorem wpList_m22_6 {w : World} {ops : Array Oper} {rest : List Oper} {o : Oper} {a : Act} {Q : Exit → Act → World → Prop} (hgd : Region.wanted o (yielded ops a.tmps) = true) (x0 x1 x2 x3 x4 x5 : Operand) (t0 t1 t2 t3 t4 t5 : E3) (ho : o.op = .buildSlice 22 6 #[(0, x0), (1, x1), (2, x2), (3, x3), (4, x4), (5, x5)]) (hx0 : a.eval x0 = .agg #[.int .i64 t0.1, .int .i64 t0.2.1, .int .i64 t0.2.2]) (hx1 : a.eval x1 = .agg #[.int .i64 t1.1, .int .i64 t1.2.1, .int .i64 t1.2.2]) (hx2 : a.eval x2 = .agg #[.int .i64 t2.1, .int .i64 t2.2.1, .int .i64 t2.2.2]) (hx3 : a.eval x3 = .agg #[.int .i64 t3.1, .int .i64 t3.2.1, .int .i64 t3.2.2]) (hx4 : a.eval x4 = .agg #[.int .i64 t4.1, .int .i64 t4.2.1, .int .i64 t4.2.2]) (hx5 : a.eval x5 = .agg #[.int .i64 t5.1, .int .i64 t5.2.1, .int .i64 t5.2.2])
    (h : wpList Try.prog ops Q rest (a.put o.dst (.slice (some ⟨w.heap.size, 0, none⟩) 6 6)) (w.alloc (.cells #[.int .i64 t0.1, .int .i64 t0.2.1, .int .i64 t0.2.2, .int .i64 t1.1, .int .i64 t1.2.1, .int .i64 t1.2.2, .int .i64 t2.1, .int .i64 t2.2.1, .int .i64 t2.2.2, .int .i64 t3.1, .int .i64 t3.2.1, .int .i64 t3.2.2, .int .i64 t4.1, .int .i64 t4.2.1, .int .i64 t4.2.2, .int .i64 t5.1, .int .i64 t5.2.1, .int .i64 t5.2.2] 50))) : wpList Try.prog ops Q (o :: rest) a w := by
  refine wpList_step fun K hK => ?_
  rw [if_pos hgd]
  have hr := mk22_6 t0 t1 t2 t3 t4 t5 w
  unfold Oper.wp
  simp only [execOp, ho]
  simp [hx0, hx1, hx2, hx3, hx4, hx5, hr, Result.andThen, Sem.run_bind]
  exact hK _ _ h
theorem rd22_6 (t0 t1 t2 t3 t4 t5 : E3) (w : World) : RdE (w.alloc (.cells #[.int .i64 t0.1, .int .i64 t0.2.1, .int .i64 t0.2.2, .int .i64 t1.1, .int .i64 t1.2.1, .int .i64 t1.2.2, .int .i64 t2.1, .int .i64 t2.2.1, .int .i64 t2.2.2, .int .i64 t3.1, .int .i64 t3.2.1, .int .i64 t3.2.2, .int .i64 t4.1, .int .i64 t4.2.1, .int .i64 t4.2.2, .int .i64 t5.1, .int .i64 t5.2.1, .int .i64 t5.2.2] 50)) (.slice (some ⟨w.heap.size, 0, none⟩) 6 6) [t0, t1, t2, t3, t4, t5] := by
  refine ⟨some ⟨w.heap.size, 0, none⟩, 6, rfl, .inr ⟨w.heap.size, 0, rfl, by simp, fun i t hi => ?_⟩⟩
  match i, hi with
  | 0, hi => simp at hi; subst hi; simp [go_sem]
  | 1, hi => simp at hi; subst hi; simp [go_sem]
  | 2, hi => simp at hi; subst hi; simp [go_sem]
  | 3, hi => simp at hi; subst hi; simp [go_sem]
  | 4, hi => simp at hi; subst hi; simp [go_sem]
  | 5, hi => simp at hi; subst hi; simp [go_sem]
  | i + 6, hi => simp at hi
theorem g22 : gridP 2 2 := by unfold gridP; omega
theorem tri22 : gridR 2 2 true true dtri = (4, 0, [(0, 1, 0), (0, 2, 0), (0, 3, 0), (1, 3, 0), (2, 3, 0)]) := by
  rw [show gridR 2 2 true true dtri = gridR ((2 : Nat) : Int) ((2 : Nat) : Int) true true dtri from rfl, gridR_yes true true dtri g22]
  rfl
theorem tree22 : treeR 2 2 = (7, 0, [(0, 1, 0), (0, 2, 0), (1, 3, 0), (1, 4, 0), (2, 5, 0), (2, 6, 0)]) := by rfl
theorem at3221 : atV 3 2 2 1 = .tuple #[.int .i64 5, .int .i64 0] := by
  unfold atV
  rw [if_pos (show gridP 3 2 by unfold gridP; omega)]
  rfl
set_option maxRecDepth 100000 in
set_option maxHeartbeats 8000000 in
theorem works (w : World) : Calls Try.prog 17 #[] w fun e w' => e = .returned (.bool true) ∧ Below w.heap.size w w' := by
  have S := sq_18 2 2 true true w
  rw [tri22] at S
  have bd50 := build50
  go_enter Try.func17, Try.ntmps17
  go_wp2_with fail
  refine S.mono ?_
  rintro e w1 ⟨v1, rfl, rd1, bw1⟩
  have R1 := hide rd1
  have B1 := hide bw1
  obtain ⟨p1, c1, hv1⟩ := rd1.slice
  subst hv1
  have T : Calls Try.prog 20 #[.int .i64 2, .int .i64 2] w1 (GRes (treeR 2 2) w1) := tree_20 2 2 (by unfold I64; omega) (by unfold I64; omega) w1
  rw [tree22] at T
  clear rd1 bw1 S
  go_wp2_with fail
  refine T.mono ?_
  rintro e w2 ⟨v2, rfl, rd2, bw2⟩
  have R2 := hide rd2
  obtain ⟨p2, c2, hv2⟩ := rd2.slice
  subst hv2
  have R1' := hide (R1.out.keep bw2)
  have B2 := hide (B1.out.trans (bw2.mono B1.out.size))
  have A := at_24 3 2 2 1 w2
  rw [at3221] at A
  clear rd2 bw2 T R1 B1
  go_wp2_with fail
  refine A.mono ?_
  rintro e w3 ⟨rfl, rfl⟩
  clear A
  go_wp2_with (refine wpList_m22_5 (by rfl) _ _ _ _ _ (0, 1, 0) (0, 2, 0) (0, 3, 0) (1, 3, 0) (2, 3, 0) rfl rfl rfl rfl rfl rfl ?_)
  have rr := rd22_5 (0, 1, 0) (0, 2, 0) (0, 3, 0) (1, 3, 0) (2, 3, 0) w2
  have bl : Below w2.heap.size w2 (w2.alloc (.cells #[.int .i64 0, .int .i64 1, .int .i64 0, .int .i64 0, .int .i64 2, .int .i64 0, .int .i64 0, .int .i64 3, .int .i64 0, .int .i64 1, .int .i64 3, .int .i64 0, .int .i64 2, .int .i64 3, .int .i64 0] 50)) := (Below.refl _ _).alloc (Nat.le_refl _) _
  have SE := same_e _ _ _ _ (R1'.out.keep bl) rr (by simp)
  refine SE.mono ?_
  rintro e w4 ⟨rfl, bw4⟩
  have R2' := hide ((R2.out.keep bl).keep bw4)
  have B4 := hide ((B2.out.trans (bl.mono B2.out.size)).trans (bw4.mono (Nat.le_trans B2.out.size bl.size)))
  clear rr bl SE bw4
  go_wp2_with (refine wpList_m22_6 (by rfl) _ _ _ _ _ _ (0, 1, 0) (0, 2, 0) (1, 3, 0) (1, 4, 0) (2, 5, 0) (2, 6, 0) rfl rfl rfl rfl rfl rfl rfl ?_)
  have rr := rd22_6 (0, 1, 0) (0, 2, 0) (1, 3, 0) (1, 4, 0) (2, 5, 0) (2, 6, 0) w4
  have bl : Below w4.heap.size w4 (w4.alloc (.cells #[.int .i64 0, .int .i64 1, .int .i64 0, .int .i64 0, .int .i64 2, .int .i64 0, .int .i64 1, .int .i64 3, .int .i64 0, .int .i64 1, .int .i64 4, .int .i64 0, .int .i64 2, .int .i64 5, .int .i64 0, .int .i64 2, .int .i64 6, .int .i64 0] 50)) := (Below.refl _ _).alloc (Nat.le_refl _) _
  have SE := same_e _ _ _ _ (R2'.out.keep bl) rr (by simp)
  refine SE.mono ?_
  rintro e w5 ⟨rfl, bw5⟩
  have B5 := hide ((B4.out.trans (bl.mono B4.out.size)).trans (bw5.mono (Nat.le_trans B4.out.size bl.size)))
  clear rr bl SE bw5
  go_wp2_with fail
  go_ret
  exact ⟨rfl, B5.out⟩
end Go.Proofs.Ythgeccmphnppgaa
