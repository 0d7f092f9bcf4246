/- LatticeKnown: the law answers true: the examples of the chapter, and the limits. -/
import Derived.Test.YthgeccmphnppgaaT
import Derived.Test.YthgeccmphnppgaaS
import Derived.Test.YthgeccmphnppgaaOp
import Derived.Test.YthgeccmphnppgaaRows
import Derived.Deep.CutRange
set_option linter.unusedVariables false
set_option linter.unusedSimpArgs false
namespace Go.Proofs.Ythgeccmphnppgaa
open Go.RowKit
theorem mk22_7 (t0 t1 t2 t3 t4 t5 t6 : E3) (w : World) : (Instr.buildSlice 22 7 #[(0, .agg #[.int .i64 t0.1, .int .i64 t0.2.1, .int .i64 t0.2.2]), (1, .agg #[.int .i64 t1.1, .int .i64 t1.2.1, .int .i64 t1.2.2]), (2, .agg #[.int .i64 t2.1, .int .i64 t2.2.1, .int .i64 t2.2.2]), (3, .agg #[.int .i64 t3.1, .int .i64 t3.2.1, .int .i64 t3.2.2]), (4, .agg #[.int .i64 t4.1, .int .i64 t4.2.1, .int .i64 t4.2.2]), (5, .agg #[.int .i64 t5.1, .int .i64 t5.2.1, .int .i64 t5.2.2]), (6, .agg #[.int .i64 t6.1, .int .i64 t6.2.1, .int .i64 t6.2.2])]).run Try.prog w = .ok (.slice (some ⟨w.heap.size, 0, none⟩) 7 7) (w.alloc (.cells #[.int .i64 t0.1, .int .i64 t0.2.1, .int .i64 t0.2.2, .int .i64 t1.1, .int .i64 t1.2.1, .int .i64 t1.2.2, .int .i64 t2.1, .int .i64 t2.2.1, .int .i64 t2.2.2, .int .i64 t3.1, .int .i64 t3.2.1, .int .i64 t3.2.2, .int .i64 t4.1, .int .i64 t4.2.1, .int .i64 t4.2.2, .int .i64 t5.1, .int .i64 t5.2.1, .int .i64 t5.2.2, .int .i64 t6.1, .int .i64 t6.2.1, .int .i64 t6.2.2] 50)) := by kernel_rfl
theorem wpList_m22_7 {w : World} {ops : Array Oper} {rest : List Oper} {o : Oper} {a : Act} {Q : Exit → Act → World → Prop} (hgd : Region.wanted o (yielded ops a.tmps) = true) (x0 x1 x2 x3 x4 x5 x6 : Operand) (t0 t1 t2 t3 t4 t5 t6 : E3) (ho : o.op = .buildSlice 22 7 #[(0, x0), (1, x1), (2, x2), (3, x3), (4, x4), (5, x5), (6, x6)]) (hx0 : a.eval x0 = .agg #[.int .i64 t0.1, .int .i64 t0.2.1, .int .i64 t0.2.2]) (hx1 : a.eval x1 = .agg #[.int .i64 t1.1, .int .i64 t1.2.1, .int .i64 t1.2.2]) (hx2 : a.eval x2 = .agg #[.int .i64 t2.1, .int .i64 t2.2.1, .int .i64 t2.2.2]) (hx3 : a.eval x3 = .agg #[.int .i64 t3.1, .int .i64 t3.2.1, .int .i64 t3.2.2]) (hx4 : a.eval x4 = .agg #[.int .i64 t4.1, .int .i64 t4.2.1, .int .i64 t4.2.2]) (hx5 : a.eval x5 = .agg #[.int .i64 t5.1, .int .i64 t5.2.1, .int .i64 t5.2.2]) (hx6 : a.eval x6 = .agg #[.int .i64 t6.1, .int .i64 t6.2.1, .int .i64 t6.2.2])
    (h : wpList Try.prog ops Q rest (a.put o.dst (.slice (some ⟨w.heap.size, 0, none⟩) 7 7)) (w.alloc (.cells #[.int .i64 t0.1, .int .i64 t0.2.1, .int .i64 t0.2.2, .int .i64 t1.1, .int .i64 t1.2.1, .int .i64 t1.2.2, .int .i64 t2.1, .int .i64 t2.2.1, .int .i64 t2.2.2, .int .i64 t3.1, .int .i64 t3.2.1, .int .i64 t3.2.2, .int .i64 t4.1, .int .i64 t4.2.1, .int .i64 t4.2.2, .int .i64 t5.1, .int .i64 t5.2.1, .int .i64 t5.2.2, .int .i64 t6.1, .int .i64 t6.2.1, .int .i64 t6.2.2] 50))) : wpList Try.prog ops Q (o :: rest) a w := by
  refine wpList_step fun K hK => ?_
  rw [if_pos hgd]
  have hr := mk22_7 t0 t1 t2 t3 t4 t5 t6 w
  unfold Oper.wp
  simp only [execOp, ho]
  simp [hx0, hx1, hx2, hx3, hx4, hx5, hx6, hr, Result.andThen, Sem.run_bind]
  exact hK _ _ h
theorem rd22_7 (t0 t1 t2 t3 t4 t5 t6 : E3) (w : World) : RdE (w.alloc (.cells #[.int .i64 t0.1, .int .i64 t0.2.1, .int .i64 t0.2.2, .int .i64 t1.1, .int .i64 t1.2.1, .int .i64 t1.2.2, .int .i64 t2.1, .int .i64 t2.2.1, .int .i64 t2.2.2, .int .i64 t3.1, .int .i64 t3.2.1, .int .i64 t3.2.2, .int .i64 t4.1, .int .i64 t4.2.1, .int .i64 t4.2.2, .int .i64 t5.1, .int .i64 t5.2.1, .int .i64 t5.2.2, .int .i64 t6.1, .int .i64 t6.2.1, .int .i64 t6.2.2] 50)) (.slice (some ⟨w.heap.size, 0, none⟩) 7 7) [t0, t1, t2, t3, t4, t5, t6] := by
  refine ⟨some ⟨w.heap.size, 0, none⟩, 7, rfl, .inr ⟨w.heap.size, 0, rfl, by simp, fun i t hi => ?_⟩⟩
  match i, hi with
  | 0, hi => simp at hi; subst hi; simp [go_sem]
  | 1, hi => simp at hi; subst hi; simp [go_sem]
  | 2, hi => simp at hi; subst hi; simp [go_sem]
  | 3, hi => simp at hi; subst hi; simp [go_sem]
  | 4, hi => simp at hi; subst hi; simp [go_sem]
  | 5, hi => simp at hi; subst hi; simp [go_sem]
  | 6, hi => simp at hi; subst hi; simp [go_sem]
  | i + 7, hi => simp at hi
theorem mk22_9 (t0 t1 t2 t3 t4 t5 t6 t7 t8 : E3) (w : World) : (Instr.buildSlice 22 9 #[(0, .agg #[.int .i64 t0.1, .int .i64 t0.2.1, .int .i64 t0.2.2]), (1, .agg #[.int .i64 t1.1, .int .i64 t1.2.1, .int .i64 t1.2.2]), (2, .agg #[.int .i64 t2.1, .int .i64 t2.2.1, .int .i64 t2.2.2]), (3, .agg #[.int .i64 t3.1, .int .i64 t3.2.1, .int .i64 t3.2.2]), (4, .agg #[.int .i64 t4.1, .int .i64 t4.2.1, .int .i64 t4.2.2]), (5, .agg #[.int .i64 t5.1, .int .i64 t5.2.1, .int .i64 t5.2.2]), (6, .agg #[.int .i64 t6.1, .int .i64 t6.2.1, .int .i64 t6.2.2]), (7, .agg #[.int .i64 t7.1, .int .i64 t7.2.1, .int .i64 t7.2.2]), (8, .agg #[.int .i64 t8.1, .int .i64 t8.2.1, .int .i64 t8.2.2])]).run Try.prog w = .ok (.slice (some ⟨w.heap.size, 0, none⟩) 9 9) (w.alloc (.cells #[.int .i64 t0.1, .int .i64 t0.2.1, .int .i64 t0.2.2, .int .i64 t1.1, .int .i64 t1.2.1, .int .i64 t1.2.2, .int .i64 t2.1, .int .i64 t2.2.1, .int .i64 t2.2.2, .int .i64 t3.1, .int .i64 t3.2.1, .int .i64 t3.2.2, .int .i64 t4.1, .int .i64 t4.2.1, .int .i64 t4.2.2, .int .i64 t5.1, .int .i64 t5.2.1, .int .i64 t5.2.2, .int .i64 t6.1, .int .i64 t6.2.1, .int .i64 t6.2.2, .int .i64 t7.1, .int .i64 t7.2.1, .int .i64 t7.2.2, .int .i64 t8.1, .int .i64 t8.2.1, .int .i64 t8.2.2] 50)) := by kernel_rfl
theorem wpList_m22_9 {w : World} {ops : Array Oper} {rest : List Oper} {o : Oper} {a : Act} {Q : Exit → Act → World → Prop} (hgd : Region.wanted o (yielded ops a.tmps) = true) (x0 x1 x2 x3 x4 x5 x6 x7 x8 : Operand) (t0 t1 t2 t3 t4 t5 t6 t7 t8 : E3) (ho : o.op = .buildSlice 22 9 #[(0, x0), (1, x1), (2, x2), (3, x3), (4, x4), (5, x5), (6, x6), (7, x7), (8, x8)]) (hx0 : a.eval x0 = .agg #[.int .i64 t0.1, .int .i64 t0.2.1, .int .i64 t0.2.2]) (hx1 : a.eval x1 = .agg #[.int .i64 t1.1, .int .i64 t1.2.1, .int .i64 t1.2.2]) (hx2 : a.eval x2 = .agg #[.int .i64 t2.1, .int .i64 t2.2.1, .int .i64 t2.2.2]) (hx3 : a.eval x3 = .agg #[.int .i64 t3.1, .int .i64 t3.2.1, .int .i64 t3.2.2]) (hx4 : a.eval x4 = .agg #[.int .i64 t4.1, .int .i64 t4.2.1, .int .i64 t4.2.2]) (hx5 : a.eval x5 = .agg #[.int .i64 t5.1, .int .i64 t5.2.1, .int .i64 t5.2.2]) (hx6 : a.eval x6 = .agg #[.int .i64 t6.1, .int .i64 t6.2.1, .int .i64 t6.2.2]) (hx7 : a.eval x7 = .agg #[.int .i64 t7.1, .int .i64 t7.2.1, .int .i64 t7.2.2]) (hx8 : a.eval x8 = .agg #[.int .i64 t8.1, .int .i64 t8.2.1, .int .i64 t8.2.2])
    (h : wpList Try.prog ops Q rest (a.put o.dst (.slice (some ⟨w.heap.size, 0, none⟩) 9 9)) (w.alloc (.cells #[.int .i64 t0.1, .int .i64 t0.2.1, .int .i64 t0.2.2, .int .i64 t1.1, .int .i64 t1.2.1, .int .i64 t1.2.2, .int .i64 t2.1, .int .i64 t2.2.1, .int .i64 t2.2.2, .int .i64 t3.1, .int .i64 t3.2.1, .int .i64 t3.2.2, .int .i64 t4.1, .int .i64 t4.2.1, .int .i64 t4.2.2, .int .i64 t5.1, .int .i64 t5.2.1, .int .i64 t5.2.2, .int .i64 t6.1, .int .i64 t6.2.1, .int .i64 t6.2.2, .int .i64 t7.1, .int .i64 t7.2.1, .int .i64 t7.2.2, .int .i64 t8.1, .int .i64 t8.2.1, .int .i64 t8.2.2] 50))) : wpList Try.prog ops Q (o :: rest) a w := by
  refine wpList_step fun K hK => ?_
  rw [if_pos hgd]
  have hr := mk22_9 t0 t1 t2 t3 t4 t5 t6 t7 t8 w
  unfold Oper.wp
  simp only [execOp, ho]
  simp [hx0, hx1, hx2, hx3, hx4, hx5, hx6, hx7, hx8, hr, Result.andThen, Sem.run_bind]
  exact hK _ _ h
theorem rd22_9 (t0 t1 t2 t3 t4 t5 t6 t7 t8 : E3) (w : World) : RdE (w.alloc (.cells #[.int .i64 t0.1, .int .i64 t0.2.1, .int .i64 t0.2.2, .int .i64 t1.1, .int .i64 t1.2.1, .int .i64 t1.2.2, .int .i64 t2.1, .int .i64 t2.2.1, .int .i64 t2.2.2, .int .i64 t3.1, .int .i64 t3.2.1, .int .i64 t3.2.2, .int .i64 t4.1, .int .i64 t4.2.1, .int .i64 t4.2.2, .int .i64 t5.1, .int .i64 t5.2.1, .int .i64 t5.2.2, .int .i64 t6.1, .int .i64 t6.2.1, .int .i64 t6.2.2, .int .i64 t7.1, .int .i64 t7.2.1, .int .i64 t7.2.2, .int .i64 t8.1, .int .i64 t8.2.1, .int .i64 t8.2.2] 50)) (.slice (some ⟨w.heap.size, 0, none⟩) 9 9) [t0, t1, t2, t3, t4, t5, t6, t7, t8] := by
  refine ⟨some ⟨w.heap.size, 0, none⟩, 9, rfl, .inr ⟨w.heap.size, 0, rfl, by simp, fun i t hi => ?_⟩⟩
  match i, hi with
  | 0, hi => simp at hi; subst hi; simp [go_sem]
  | 1, hi => simp at hi; subst hi; simp [go_sem]
  | 2, hi => simp at hi; subst hi; simp [go_sem]
  | 3, hi => simp at hi; subst hi; simp [go_sem]
  | 4, hi => simp at hi; subst hi; simp [go_sem]
  | 5, hi => simp at hi; subst hi; simp [go_sem]
  | 6, hi => simp at hi; subst hi; simp [go_sem]
  | 7, hi => simp at hi; subst hi; simp [go_sem]
  | 8, hi => simp at hi; subst hi; simp [go_sem]
  | i + 9, hi => simp at hi
theorem sq32 : gridR 3 2 false false dsq = (6, 0, [(0, 1, 0), (0, 3, 0), (1, 2, 0), (1, 4, 0), (2, 5, 0), (3, 4, 0), (4, 5, 0)]) := by
  rw [show gridR 3 2 false false dsq = gridR ((3 : Nat) : Int) ((2 : Nat) : Int) false false dsq from rfl, gridR_yes false false dsq (show gridP ((3 : Nat) : Int) ((2 : Nat) : Int) by unfold gridP; omega)]
  rfl
theorem sq32w : gridR 3 2 true true dsq = (6, 0, [(0, 1, 0), (0, 3, 0), (1, 2, 0), (1, 4, 0), (2, 0, 0), (2, 5, 0), (3, 4, 0), (4, 5, 0), (5, 3, 0)]) := by
  rw [show gridR 3 2 true true dsq = gridR ((3 : Nat) : Int) ((2 : Nat) : Int) true true dsq from rfl, gridR_yes true true dsq (show gridP ((3 : Nat) : Int) ((2 : Nat) : Int) by unfold gridP; omega)]
  rfl
theorem gE_const {w h : Nat} {wx wy : Bool} {ds : List (Nat × Nat)} {c : Nat} : ∀ k, (∀ v, v < k → (ds.flatMap (edgeAt w h wx wy v)).length = c) → (gE w h wx wy ds k).length = k * c := by
  intro k
  induction k with
  | zero => intro _; simp [gE]
  | succ k ih => intro hh; simp only [gE, List.length_append, ih (fun v hv => hh v (by omega)), hh k (by omega), Nat.add_mul, Nat.one_mul]
theorem ahd_closed (a : Nat) {z : Nat} (hz : 3 ≤ z) : (ahd a 1 z true).2 = true := by
  unfold ahd
  split
  · rfl
  · simp [hz]
theorem len64 : (gE 64 64 true true dsq 4096).length = 8192 := by
  have := gE_const (w := 64) (h := 64) (wx := true) (wy := true) (ds := dsq) (c := 2) 4096 (fun v hv => by
    obtain ⟨x1, bx, ex⟩ : ∃ x1 bx, ahd (v % 64) 1 64 true = (x1, bx) := ⟨_, _, rfl⟩
    obtain ⟨y1, b1, ey⟩ : ∃ y1 b1, ahd (v / 64) 1 64 true = (y1, b1) := ⟨_, _, rfl⟩
    have e := edges_at (w := 64) (h := 64) (k := v) (by omega) (by omega) ex ey false
    have e1 := ahd_closed (v % 64) (z := 64) (by omega)
    have e2 := ahd_closed (v / 64) (z := 64) (by omega)
    rw [ex] at e1
    rw [ey] at e2
    simp only at e1 e2
    subst e1; subst e2
    rw [show dsq = dOf false from rfl, e]
    simp)
  omega
theorem len1 : (gE 1 4096 true true dtri 4096).length = 4096 := by
  have := gE_const (w := 1) (h := 4096) (wx := true) (wy := true) (ds := dtri) (c := 1) 4096 (fun v hv => by
    have ex : ahd (v % 1) 1 1 true = (0, false) := by unfold ahd; rw [if_neg (by omega)]; rfl
    obtain ⟨y1, b1, ey⟩ : ∃ y1 b1, ahd (v / 1) 1 4096 true = (y1, b1) := ⟨_, _, rfl⟩
    have e := edges_at (w := 1) (h := 4096) (k := v) (by omega) (by omega) ex ey true
    have e2 := ahd_closed (v / 1) (z := 4096) (by omega)
    rw [ey] at e2
    simp only at e2
    subst e2
    rw [show dtri = dOf true from rfl, e]
    simp)
  omega
theorem g64 : ∃ l, gridR 64 64 true true dsq = (4096, 0, l) ∧ l.length = 8192 := by
  refine ⟨gE 64 64 true true dsq 4096, ?_, len64⟩
  rw [show gridR 64 64 true true dsq = gridR ((64 : Nat) : Int) ((64 : Nat) : Int) true true dsq from rfl, gridR_yes true true dsq (show gridP ((64 : Nat) : Int) ((64 : Nat) : Int) by unfold gridP; omega)]
  rfl
theorem g1 : ∃ l, gridR 1 4096 true true dtri = (4096, 0, l) ∧ l.length = 4096 := by
  refine ⟨gE 1 4096 true true dtri 4096, ?_, len1⟩
  rw [show gridR 1 4096 true true dtri = gridR ((1 : Nat) : Int) ((4096 : Nat) : Int) true true dtri from rfl, gridR_yes true true dtri (show gridP ((1 : Nat) : Int) ((4096 : Nat) : Int) by unfold gridP; omega)]
  rfl
theorem rowU_exact (u : Nat) : ∀ k, (rowU u k).length = k - (u + 1) := by
  intro k
  induction k with
  | zero => simp [rowU]
  | succ k ih => simp only [rowU, List.length_append, ih]; split <;> simp <;> omega
def cl (n : Nat) : Nat → Nat
  | 0 => 0
  | k + 1 => cl n k + (n - (k + 1))
theorem compE_exact (n : Nat) : ∀ k, (compE n k).length = cl n k := by
  intro k
  induction k with
  | zero => rfl
  | succ k ih => simp only [compE, cl, List.length_append, ih, rowU_exact]
theorem c181 : ∃ l, compR 181 = (0, l) ∧ l.length = 16290 := by
  refine ⟨compE 181 181, ?_, by rw [compE_exact]; decide +kernel⟩
  unfold compR
  rw [if_neg (by omega), if_neg (by omega)]
  rfl
theorem c0 : ∃ l, compR 0 = (0, l) ∧ l.length = 0 := ⟨[], rfl, rfl⟩
theorem tE_exact (c : Nat) : ∀ v, (tE c v).length = v - 1 := by
  intro v
  induction v with
  | zero => rfl
  | succ v ih => simp only [tE, List.length_append, ih]; split <;> simp <;> omega
theorem tr_one : ∀ d, d ≤ 4095 → tr 1 d = some (d + 1, 1) := by
  intro d
  induction d with
  | zero => intro _; rfl
  | succ d ih => intro h; unfold tr; rw [ih (by omega)]; simp; omega
theorem t4095 : ∃ l, treeR 1 4095 = (4096, 0, l) ∧ l.length = 4095 := by
  refine ⟨tE 1 4096, ?_, by rw [tE_exact]⟩
  unfold treeR
  rw [if_neg (by omega), show (1 : Int).toNat = 1 from rfl, show (4095 : Int).toNat = 4095 from rfl, tr_one 4095 (by omega)]
  rfl
theorem t4096 : treeR 1 4096 = (0, 2, []) := by
  unfold treeR
  rw [if_neg (by omega), show (1 : Int).toNat = 1 from rfl, show (4096 : Int).toNat = 4096 from rfl, tr_deep (by omega) (by omega)]
  rfl
theorem tbig : treeR 9223372036854775807 0 = (1, 0, []) := by
  unfold treeR
  rw [if_neg (by omega)]
  rfl
theorem twide : treeR 4096 1 = (0, 2, []) := by
  unfold treeR
  rw [if_neg (by omega)]
  rfl
theorem tnone : treeR 0 0 = (0, 2, []) := by
  unfold treeR
  rw [if_pos (by omega)]
theorem lit3 {f : FuncId} {args : Array Value} {W : World} {n er : Int} {l : List E3} {len : Nat} {r : Int × Int × List E3} (C : Calls Try.prog f args W (GRes r W)) (hr : r = (n, er, l)) (hl : l.length = len) :
    Calls Try.prog f args W fun e w' => ∃ p c, e = .returned (.tuple #[.int .i64 n, .slice p len c, .int .i64 er]) ∧ RdE w' (.slice p len c) l ∧ Below W.heap.size W w' := by
  subst hr
  refine C.mono ?_
  rintro e w' ⟨v, rfl, rd, bw⟩
  obtain ⟨p, c, hv⟩ := rd.slice
  rw [hl] at hv
  subst hv
  exact ⟨p, c, rfl, rd, bw⟩
theorem lit2 {f : FuncId} {args : Array Value} {W : World} {er : Int} {l : List E3} {len : Nat} {r : Int × List E3} (C : Calls Try.prog f args W fun e w' => ∃ v, e = .returned (.tuple #[v, .int .i64 r.1]) ∧ RdE w' v r.2 ∧ Below W.heap.size W w') (hr : r = (er, l)) (hl : l.length = len) :
    Calls Try.prog f args W fun e w' => ∃ p c, e = .returned (.tuple #[.slice p len c, .int .i64 er]) ∧ RdE w' (.slice p len c) l ∧ Below W.heap.size W w' := by
  subst hr
  refine C.mono ?_
  rintro e w' ⟨v, rfl, rd, bw⟩
  obtain ⟨p, c, hv⟩ := rd.slice
  rw [hl] at hv
  subst hv
  exact ⟨p, c, rfl, rd, bw⟩
namespace lawKnown
open Go.ChangeShapes Go.WideShapes Go.ChangeAt Go.RowKit Go.Joins
set_option maxRecDepth 100000 in
set_option maxHeartbeats 40000000 in
theorem walk (w : World) : Calls Try.prog 13 #[] w fun e w' => e = .returned (.bool true) ∧ Below w.heap.size w w' := by
  have bd50 := build50
  obtain ⟨l64, h64, n64⟩ := g64
  obtain ⟨l1, h1, n1⟩ := g1
  obtain ⟨l181, h181, n181⟩ := c181
  obtain ⟨l95, h95, n95⟩ := t4095
  have C1 : ∀ W, Hid (Calls Try.prog 14 #[.int .i64 3, .int .i64 2, .bool false, .bool false] W fun e w' => ∃ p c, e = .returned (.tuple #[.int .i64 6, .slice p 7 c, .int .i64 0]) ∧ RdE w' (.slice p 7 c) [(0, 1, 0), (0, 3, 0), (1, 2, 0), (1, 4, 0), (2, 5, 0), (3, 4, 0), (4, 5, 0)] ∧ Below W.heap.size W w') := fun W => lit3 (sq_14 3 2 false false W) sq32 rfl
  have C2 : ∀ W, Hid (Calls Try.prog 14 #[.int .i64 3, .int .i64 2, .bool true, .bool true] W fun e w' => ∃ p c, e = .returned (.tuple #[.int .i64 6, .slice p 9 c, .int .i64 0]) ∧ RdE w' (.slice p 9 c) [(0, 1, 0), (0, 3, 0), (1, 2, 0), (1, 4, 0), (2, 0, 0), (2, 5, 0), (3, 4, 0), (4, 5, 0), (5, 3, 0)] ∧ Below W.heap.size W w') := fun W => lit3 (sq_14 3 2 true true W) sq32w rfl
  have C3 : ∀ W, Hid (Calls Try.prog 14 #[.int .i64 64, .int .i64 64, .bool true, .bool true] W fun e w' => ∃ p c, e = .returned (.tuple #[.int .i64 4096, .slice p 8192 c, .int .i64 0]) ∧ RdE w' (.slice p 8192 c) l64 ∧ Below W.heap.size W w') := fun W => lit3 (sq_14 64 64 true true W) h64 n64
  have C4 : ∀ W, Hid (Calls Try.prog 18 #[.int .i64 1, .int .i64 4096, .bool true, .bool true] W fun e w' => ∃ p c, e = .returned (.tuple #[.int .i64 4096, .slice p 4096 c, .int .i64 0]) ∧ RdE w' (.slice p 4096 c) l1 ∧ Below W.heap.size W w') := fun W => lit3 (sq_18 1 4096 true true W) h1 n1
  have C5 : ∀ W, Hid (Calls Try.prog 14 #[.int .i64 64, .int .i64 65, .bool true, .bool true] W fun e w' => ∃ p c, e = .returned (.tuple #[.int .i64 0, .slice p 0 c, .int .i64 2]) ∧ RdE w' (.slice p 0 c) [] ∧ Below W.heap.size W w') := fun W => lit3 (sq_14 64 65 true true W) (gridR_no true true dsq (by unfold gridP; omega)) rfl
  have C6 : ∀ W, Hid (Calls Try.prog 18 #[.int .i64 0, .int .i64 5, .bool true, .bool true] W fun e w' => ∃ p c, e = .returned (.tuple #[.int .i64 0, .slice p 0 c, .int .i64 2]) ∧ RdE w' (.slice p 0 c) [] ∧ Below W.heap.size W w') := fun W => lit3 (sq_18 0 5 true true W) (gridR_no true true dtri (by unfold gridP; omega)) rfl
  have C7 : ∀ W, Hid (Calls Try.prog 14 #[.int .i64 4611686018427387904, .int .i64 4, .bool false, .bool false] W fun e w' => ∃ p c, e = .returned (.tuple #[.int .i64 0, .slice p 0 c, .int .i64 2]) ∧ RdE w' (.slice p 0 c) [] ∧ Below W.heap.size W w') := fun W => lit3 (sq_14 4611686018427387904 4 false false W) (gridR_no false false dsq (by unfold gridP; omega)) rfl
  have C8 : ∀ W, Hid (Calls Try.prog 22 #[.int .i64 181] W fun e w' => ∃ p c, e = .returned (.tuple #[.slice p 16290 c, .int .i64 0]) ∧ RdE w' (.slice p 16290 c) l181 ∧ Below W.heap.size W w') := fun W => lit2 (comp_22 181 (by unfold I64; omega) W) h181 n181
  have C9 : ∀ W, Hid (Calls Try.prog 22 #[.int .i64 182] W fun e w' => ∃ p c, e = .returned (.tuple #[.slice p 0 c, .int .i64 16]) ∧ RdE w' (.slice p 0 c) [] ∧ Below W.heap.size W w') := fun W => lit2 (comp_22 182 (by unfold I64; omega) W) (by unfold compR; rw [if_neg (by omega), if_pos (by omega)]) rfl
  have C10 : ∀ W, Hid (Calls Try.prog 22 #[.int .i64 4097] W fun e w' => ∃ p c, e = .returned (.tuple #[.slice p 0 c, .int .i64 2]) ∧ RdE w' (.slice p 0 c) [] ∧ Below W.heap.size W w') := fun W => lit2 (comp_22 4097 (by unfold I64; omega) W) (by unfold compR; rw [if_pos (by omega)]) rfl
  have C11 : ∀ W, Hid (Calls Try.prog 22 #[.int .i64 0] W fun e w' => ∃ p c, e = .returned (.tuple #[.slice p 0 c, .int .i64 0]) ∧ RdE w' (.slice p 0 c) [] ∧ Below W.heap.size W w') := fun W => lit2 (comp_22 0 (by unfold I64; omega) W) rfl rfl
  have C12 : ∀ W, Hid (Calls Try.prog 20 #[.int .i64 1, .int .i64 4095] W fun e w' => ∃ p c, e = .returned (.tuple #[.int .i64 4096, .slice p 4095 c, .int .i64 0]) ∧ RdE w' (.slice p 4095 c) l95 ∧ Below W.heap.size W w') := fun W => lit3 (tree_20 1 4095 (by unfold I64; omega) (by unfold I64; omega) W) h95 n95
  have C13 : ∀ W, Hid (Calls Try.prog 20 #[.int .i64 1, .int .i64 4096] W fun e w' => ∃ p c, e = .returned (.tuple #[.int .i64 0, .slice p 0 c, .int .i64 2]) ∧ RdE w' (.slice p 0 c) [] ∧ Below W.heap.size W w') := fun W => lit3 (tree_20 1 4096 (by unfold I64; omega) (by unfold I64; omega) W) t4096 rfl
  have C14 : ∀ W, Hid (Calls Try.prog 20 #[.int .i64 9223372036854775807, .int .i64 0] W fun e w' => ∃ p c, e = .returned (.tuple #[.int .i64 1, .slice p 0 c, .int .i64 0]) ∧ RdE w' (.slice p 0 c) [] ∧ Below W.heap.size W w') := fun W => lit3 (tree_20 9223372036854775807 0 (by unfold I64; omega) (by unfold I64; omega) W) tbig rfl
  have C15 : ∀ W, Hid (Calls Try.prog 20 #[.int .i64 4096, .int .i64 1] W fun e w' => ∃ p c, e = .returned (.tuple #[.int .i64 0, .slice p 0 c, .int .i64 2]) ∧ RdE w' (.slice p 0 c) [] ∧ Below W.heap.size W w') := fun W => lit3 (tree_20 4096 1 (by unfold I64; omega) (by unfold I64; omega) W) twide rfl
  have C16 : ∀ W, Hid (Calls Try.prog 20 #[.int .i64 0, .int .i64 0] W fun e w' => ∃ p c, e = .returned (.tuple #[.int .i64 0, .slice p 0 c, .int .i64 2]) ∧ RdE w' (.slice p 0 c) [] ∧ Below W.heap.size W w') := fun W => lit3 (tree_20 0 0 (by unfold I64; omega) (by unfold I64; omega) W) tnone rfl
  clear h64 n64 h1 n1 h181 n181 h95 n95
  go_enter Try.func13, Try.ntmps13
  go_wp2_with fail
  refine (C1 w).out.mono ?_
  rintro e w1 ⟨p1, c1, rfl, rd, bw⟩
  have B1 := hide bw
  have R1 := hide rd
  clear rd bw C1
  go_wp2_with fail
  refine (C2 w1).out.mono ?_
  rintro e w2 ⟨p2, c2, rfl, rd, bw⟩
  have B2 := hide (B1.out.trans (bw.mono B1.out.size))
  have R2 := hide (R1.out.keep bw)
  have Q2 := hide rd
  clear rd bw C2 R1 B1
  go_wp2_with (refine wpList_m22_7 (by rfl) _ _ _ _ _ _ _ (0, 1, 0) (0, 3, 0) (1, 2, 0) (1, 4, 0) (2, 5, 0) (3, 4, 0) (4, 5, 0) rfl rfl rfl rfl rfl rfl rfl rfl ?_)
  have rr := rd22_7 (0, 1, 0) (0, 3, 0) (1, 2, 0) (1, 4, 0) (2, 5, 0) (3, 4, 0) (4, 5, 0) w2
  have bl : Below w2.heap.size w2 (w2.alloc (.cells #[.int .i64 0, .int .i64 1, .int .i64 0, .int .i64 0, .int .i64 3, .int .i64 0, .int .i64 1, .int .i64 2, .int .i64 0, .int .i64 1, .int .i64 4, .int .i64 0, .int .i64 2, .int .i64 5, .int .i64 0, .int .i64 3, .int .i64 4, .int .i64 0, .int .i64 4, .int .i64 5, .int .i64 0] 50)) := (Below.refl _ _).alloc (Nat.le_refl _) _
  have SE := same_e _ _ _ _ (R2.out.keep bl) rr (by simp)
  refine SE.mono ?_
  rintro e w3 ⟨rfl, bw⟩
  have R3 := hide ((R2.out.keep bl).keep bw)
  have Q3 := hide ((Q2.out.keep bl).keep bw)
  have B3 := hide ((B2.out.trans (bl.mono B2.out.size)).trans (bw.mono (Nat.le_trans B2.out.size bl.size)))
  clear rr bl SE bw B2 R2 Q2
  go_wp2_with (refine wpList_m22_9 (by rfl) _ _ _ _ _ _ _ _ _ (0, 1, 0) (0, 3, 0) (1, 2, 0) (1, 4, 0) (2, 0, 0) (2, 5, 0) (3, 4, 0) (4, 5, 0) (5, 3, 0) rfl rfl rfl rfl rfl rfl rfl rfl rfl rfl ?_)
  have rr := rd22_9 (0, 1, 0) (0, 3, 0) (1, 2, 0) (1, 4, 0) (2, 0, 0) (2, 5, 0) (3, 4, 0) (4, 5, 0) (5, 3, 0) w3
  have bl : Below w3.heap.size w3 (w3.alloc (.cells #[.int .i64 0, .int .i64 1, .int .i64 0, .int .i64 0, .int .i64 3, .int .i64 0, .int .i64 1, .int .i64 2, .int .i64 0, .int .i64 1, .int .i64 4, .int .i64 0, .int .i64 2, .int .i64 0, .int .i64 0, .int .i64 2, .int .i64 5, .int .i64 0, .int .i64 3, .int .i64 4, .int .i64 0, .int .i64 4, .int .i64 5, .int .i64 0, .int .i64 5, .int .i64 3, .int .i64 0] 50)) := (Below.refl _ _).alloc (Nat.le_refl _) _
  have SE := same_e _ _ _ _ (Q3.out.keep bl) rr (by simp)
  refine SE.mono ?_
  rintro e w4 ⟨rfl, bw⟩
  have R4 := hide ((R3.out.keep bl).keep bw)
  have B4 := hide ((B3.out.trans (bl.mono B3.out.size)).trans (bw.mono (Nat.le_trans B3.out.size bl.size)))
  clear rr bl SE bw B3 R3
  clear Q3
  go_wp2_with fail
  refine (C3 w4).out.mono ?_
  rintro e w5 ⟨q3, d3, rfl, rd, bw⟩
  have B5 := hide (B4.out.trans (bw.mono B4.out.size))
  have R5 := hide (R4.out.keep bw)
  clear rd bw C3 B4 R4
  go_wp2_with fail
  refine (C4 w5).out.mono ?_
  rintro e w6 ⟨q4, d4, rfl, rd, bw⟩
  have B6 := hide (B5.out.trans (bw.mono B5.out.size))
  have R6 := hide (R5.out.keep bw)
  clear rd bw C4 B5 R5
  go_wp2_with fail
  refine (C5 w6).out.mono ?_
  rintro e w7 ⟨q5, d5, rfl, rd, bw⟩
  have B7 := hide (B6.out.trans (bw.mono B6.out.size))
  have R7 := hide (R6.out.keep bw)
  clear rd bw C5 B6 R6
  go_wp2_with fail
  refine (C6 w7).out.mono ?_
  rintro e w8 ⟨q6, d6, rfl, rd, bw⟩
  have B8 := hide (B7.out.trans (bw.mono B7.out.size))
  have R8 := hide (R7.out.keep bw)
  clear rd bw C6 B7 R7
  go_wp2_with fail
  refine (C7 w8).out.mono ?_
  rintro e w9 ⟨q7, d7, rfl, rd, bw⟩
  have B9 := hide (B8.out.trans (bw.mono B8.out.size))
  have R9 := hide (R8.out.keep bw)
  clear rd bw C7 B8 R8
  go_wp2_with fail
  refine (C8 w9).out.mono ?_
  rintro e w10 ⟨q8, d8, rfl, rd, bw⟩
  have B10 := hide (B9.out.trans (bw.mono B9.out.size))
  have R10 := hide (R9.out.keep bw)
  clear rd bw C8 B9 R9
  go_wp2_with fail
  refine (C9 w10).out.mono ?_
  rintro e w11 ⟨q9, d9, rfl, rd, bw⟩
  have B11 := hide (B10.out.trans (bw.mono B10.out.size))
  have R11 := hide (R10.out.keep bw)
  clear rd bw C9 B10 R10
  go_wp2_with fail
  refine (C10 w11).out.mono ?_
  rintro e w12 ⟨q10, d10, rfl, rd, bw⟩
  have B12 := hide (B11.out.trans (bw.mono B11.out.size))
  have R12 := hide (R11.out.keep bw)
  clear rd bw C10 B11 R11
  go_wp2_with fail
  refine (C11 w12).out.mono ?_
  rintro e w13 ⟨q11, d11, rfl, rd, bw⟩
  have B13 := hide (B12.out.trans (bw.mono B12.out.size))
  have R13 := hide (R12.out.keep bw)
  clear rd bw C11 B12 R12
  go_wp2_with fail
  refine (C12 w13).out.mono ?_
  rintro e w14 ⟨q12, d12, rfl, rd, bw⟩
  have B14 := hide (B13.out.trans (bw.mono B13.out.size))
  have R14 := hide (R13.out.keep bw)
  clear rd bw C12 B13 R13
  go_wp2_with fail
  refine (C13 w14).out.mono ?_
  rintro e w15 ⟨q13, d13, rfl, rd, bw⟩
  have B15 := hide (B14.out.trans (bw.mono B14.out.size))
  have R15 := hide (R14.out.keep bw)
  clear rd bw C13 B14 R14
  go_wp2_with fail
  refine (C14 w15).out.mono ?_
  rintro e w16 ⟨q14, d14, rfl, rd, bw⟩
  have B16 := hide (B15.out.trans (bw.mono B15.out.size))
  have R16 := hide (R15.out.keep bw)
  clear rd bw C14 B15 R15
  go_wp2_with fail
  refine (C15 w16).out.mono ?_
  rintro e w17 ⟨q15, d15, rfl, rd, bw⟩
  have B17 := hide (B16.out.trans (bw.mono B16.out.size))
  have R17 := hide (R16.out.keep bw)
  clear rd bw C15 B16 R16
  go_wp2_with fail
  refine (C16 w17).out.mono ?_
  rintro e w18 ⟨q16, d16, rfl, rd, bw⟩
  have B18 := hide (B17.out.trans (bw.mono B17.out.size))
  have R18 := hide (R17.out.keep bw)
  clear rd bw C16 B17 R17
  go_wp2_with fail
  have WN : Calls Try.prog 28 #[.slice p1 7 c1, .slice none 0 0] w18 fun e w' => ∃ v, e = .returned (.tuple #[v, .int .i64 2]) ∧ RdE w' v [] ∧ Below w18.heap.size w18 w' := weights_28 [(0, 1, 0), (0, 3, 0), (1, 2, 0), (1, 4, 0), (2, 5, 0), (3, 4, 0), (4, 5, 0)] [] (by simp) _ _ w18 R18.out ⟨none, 0, rfl, .inl rfl⟩
  refine WN.mono ?_
  rintro e w19 ⟨v, rfl, rd, bw⟩
  have B19 := hide (B18.out.trans (bw.mono B18.out.size))
  clear rd bw WN B18 R18
  go_wp2_with fail
  refine (works _).mono ?_
  rintro e wz ⟨rfl, bw⟩
  have BZ := hide (B19.out.trans (bw.mono B19.out.size))
  clear bw
  go_wp2_with fail
  go_ret
  exact ⟨rfl, BZ.out⟩
theorem own : ownKnob Try.prog.godebug = none := by kernel_rfl
theorem laidOut : laidOutB Try.prog = true := by kernel_rfl
set_option maxRecDepth 100000 in
theorem lifted (os : Os) (started : os.Started) (H : Type) (enc : TypeId × Value → H) :
    ReturnsInHanded {} Try.checked os 13 .any (Rows.latticeKnownSpec.pre6 enc Try.prog Try.f13 Rows.latticeKnownRow.domain false) (Rows.latticeKnownSpec.post enc Try.prog Try.f13 false true false false) := by
  refine returnsInHanded_of_change (C := Try.checked) own started (by kernel_rfl) Try.func13
    (ChangeSpec.witness6 (enc := enc) (C := Try.checked) false ⟨#[], #[], []⟩ 8 (by kernel_rfl) (by kernel_rfl) (by kernel_rfl) (by kernel_rfl)) ?_
  intro W base args ds gs before hval0 hW hcnd _
  have hval : ∀ (j : Nat) t v, Try.f13.params[j]? = some t → args[j]? = some v → Value.okWide Try.prog W .any base t v := hval0
  have hW' := hW
  obtain ⟨p, q, hA0, hV, rfl, hfz, hnd⟩ := hW
  have hA : DataW.TrodAll enc Try.prog W 0 (fun _ => true) true Try.f13.params.toList args.toList ds p := hA0
  rw [Try.params13] at hA hval
  obtain ⟨hargs, rfl, rfl⟩ := trodAll_none hA
  obtain rfl : args = #[] := by cases args; simp_all
  obtain ⟨rfl, rfl⟩ := trodVars_none hV
  clear hA0 hval0
  refine (walk W).mono fun e W' ⟨he, bel⟩ => ?_
  subst he
  exact ⟨_, rfl, _, _, _, [], _, [], hW', trodAll_mk1 (shut_bool Try.underlying4 _), trodAll_mk0, rfl, bel.frame _, fun h => by cases h⟩
theorem holds : Rows.latticeKnownRow.holds Try.pinned (OpenSpec.ofChange Rows.latticeKnownSpec) :=
  OpenClaim.holds_of_wide 13 Try.f13 rfl rfl rfl rfl rfl rfl rfl ⟨rfl, rfl, rfl, rfl, rfl⟩ rfl rfl rfl rfl rfl (by kernel_rfl) Try.func13 (by kernel_rfl)
    (of_decide_eq_true (by kernel_rfl)) (by unfold Func.isWrapper; first | (rw [if_pos (by decide +kernel)]; kernel_rfl) | (rw [if_neg (by decide +kernel)]; exact ⟨rfl, rfl⟩))
    (fun os started H enc _ => lifted os started H enc)
theorem proved : Rows.LatticeKnownSaid := holds
end lawKnown
end Go.Proofs.Ythgeccmphnppgaa
