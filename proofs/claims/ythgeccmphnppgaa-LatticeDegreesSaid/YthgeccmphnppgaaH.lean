/- Square and triangular lattices, of the program and of the specification. -/
import Derived.Test.YthgeccmphnppgaaE
set_option linter.unusedVariables false
set_option linter.unusedSimpArgs false
namespace Go.Proofs.Ythgeccmphnppgaa
open Go.RowKit

theorem gridR_no {w h : Int} (wx wy : Bool) (ds : List (Nat × Nat)) (g : ¬ gridP w h) : gridR w h wx wy ds = (0, 2, []) := by unfold gridR; rw [if_neg g]
theorem gridR_yes {w h : Nat} (wx wy : Bool) (ds : List (Nat × Nat)) (g : gridP w h) : gridR w h wx wy ds = (((w * h : Nat) : Int), 0, gE w h wx wy ds (w * h)) := by
  have e : (w : Int) * (h : Int) = ((w * h : Nat) : Int) := by simp
  unfold gridR; rw [if_pos g, e]; simp only [Int.toNat_natCast]
theorem gridP.nat {w h : Int} (g : gridP w h) : ∃ a b : Nat, w = (a : Int) ∧ h = (b : Int) := ⟨w.toNat, h.toNat, by have := g.1; omega, by have := g.2.1; omega⟩
theorem sgrid_any (w h : Int) (wx wy d : Bool) (W : World) : Calls Try.prog 34 #[.int .i64 w, .int .i64 h, .bool wx, .bool wy, .bool d] W (GRes (gridR w h wx wy (dOf d)) W) := by
  by_cases g : gridP w h
  · obtain ⟨a, b, rfl, rfl⟩ := g.nat
    rw [gridR_yes wx wy (dOf d) g]
    exact sgrid_yes a b wx wy d g W
  · rw [gridR_no wx wy (dOf d) g]
    exact (sgrid_no w h wx wy d g W).mono fun e w' ⟨he, hw⟩ => ⟨_, he, RdE.nil _, hw ▸ Below.refl _ _⟩
theorem build56 (x y : Int) (w : World) : (Instr.build 56 #[(0, .int .i64 x), (1, .int .i64 y)]).run Try.prog w = .ok (.agg #[.int .i64 x, .int .i64 y]) w := by kernel_rfl
theorem mk63a (w : World) : (Instr.buildSlice 63 2 #[(0, .agg #[.int .i64 1, .int .i64 0]), (1, .agg #[.int .i64 0, .int .i64 1])]).run Try.prog w = .ok (.slice (some ⟨w.heap.size, 0, none⟩) 2 2) (w.alloc (.cells #[.int .i64 1, .int .i64 0, .int .i64 0, .int .i64 1] 56)) := by kernel_rfl
theorem mk63b (w : World) : (Instr.buildSlice 63 3 #[(0, .agg #[.int .i64 1, .int .i64 0]), (1, .agg #[.int .i64 0, .int .i64 1]), (2, .agg #[.int .i64 1, .int .i64 1])]).run Try.prog w = .ok (.slice (some ⟨w.heap.size, 0, none⟩) 3 3) (w.alloc (.cells #[.int .i64 1, .int .i64 0, .int .i64 0, .int .i64 1, .int .i64 1, .int .i64 1] 56)) := by kernel_rfl
theorem wpList_m63a {w : World} {ops : Array Oper} {rest : List Oper} {o : Oper} {a : Act} {Q : Exit → Act → World → Prop} (hgd : o.guard = none) (x y : Operand) (ho : o.op = .buildSlice 63 2 #[(0, x), (1, y)]) (hx : a.eval x = .agg #[.int .i64 1, .int .i64 0]) (hy : a.eval y = .agg #[.int .i64 0, .int .i64 1])
    (h : wpList Try.prog ops Q rest (a.put o.dst (.slice (some ⟨w.heap.size, 0, none⟩) 2 2)) (w.alloc (.cells #[.int .i64 1, .int .i64 0, .int .i64 0, .int .i64 1] 56))) : wpList Try.prog ops Q (o :: rest) a w := by
  refine wpList_plain hgd fun K hK => ?_
  have hr := mk63a w
  unfold Oper.wp
  simp only [execOp, ho]
  simp [hx, hy, hr, Result.andThen, Sem.run_bind]
  exact hK _ _ h
theorem wpList_m63b {w : World} {ops : Array Oper} {rest : List Oper} {o : Oper} {a : Act} {Q : Exit → Act → World → Prop} (hgd : o.guard = none) (x y z : Operand) (ho : o.op = .buildSlice 63 3 #[(0, x), (1, y), (2, z)]) (hx : a.eval x = .agg #[.int .i64 1, .int .i64 0]) (hy : a.eval y = .agg #[.int .i64 0, .int .i64 1]) (hz : a.eval z = .agg #[.int .i64 1, .int .i64 1])
    (h : wpList Try.prog ops Q rest (a.put o.dst (.slice (some ⟨w.heap.size, 0, none⟩) 3 3)) (w.alloc (.cells #[.int .i64 1, .int .i64 0, .int .i64 0, .int .i64 1, .int .i64 1, .int .i64 1] 56))) : wpList Try.prog ops Q (o :: rest) a w := by
  refine wpList_plain hgd fun K hK => ?_
  have hr := mk63b w
  unfold Oper.wp
  simp only [execOp, ho]
  simp [hx, hy, hz, hr, Result.andThen, Sem.run_bind]
  exact hK _ _ h
theorem grid_any (w h : Int) (wx wy : Bool) (ds : List (Nat × Nat)) (hds : ds.length ≤ 3 ∧ ∀ d ∈ ds, d.1 ≤ 1 ∧ d.2 ≤ 1) (W : World) (bd c : Nat) (hbd : bd < W.heap.size)
    (hc : ∀ j d, ds[j]? = some d → W.cell? ⟨bd, j * 2, none⟩ = some (.int .i64 ((d.1 : Nat) : Int)) ∧ W.cell? ⟨bd, j * 2 + 1, none⟩ = some (.int .i64 ((d.2 : Nat) : Int))) :
    Calls Try.prog 33 #[.int .i64 w, .int .i64 h, .bool wx, .bool wy, .slice (some ⟨bd, 0, none⟩) ds.length c] W (GRes (gridR w h wx wy ds) W) := by
  by_cases g : gridP w h
  · obtain ⟨a, b, rfl, rfl⟩ := g.nat
    rw [gridR_yes wx wy ds g]
    exact grid_yes a b wx wy g ds hds W bd c hbd hc
  · rw [gridR_no wx wy ds g]
    exact (grid_no w h wx wy g W bd c ds.length).mono fun e w' ⟨he, hw⟩ => ⟨_, he, RdE.nil _, hw⟩
set_option maxRecDepth 100000 in
set_option maxHeartbeats 4000000 in
theorem sq_14 (w h : Int) (wx wy : Bool) (W : World) : Calls Try.prog 14 #[.int .i64 w, .int .i64 h, .bool wx, .bool wy] W (GRes (gridR w h wx wy dsq) W) := by
  have bel : Below W.heap.size W (W.alloc (.cells #[.int .i64 1, .int .i64 0, .int .i64 0, .int .i64 1] 56)) := (Below.refl _ _).alloc (Nat.le_refl _) _
  have G := grid_any w h wx wy dsq ⟨by decide, by decide⟩ (W.alloc (.cells #[.int .i64 1, .int .i64 0, .int .i64 0, .int .i64 1] 56)) W.heap.size 2 (by simp) (by
    intro j d hd
    unfold dsq at hd
    match j, hd with
    | 0, hd => simp at hd; subst hd; simp [go_sem]
    | 1, hd => simp at hd; subst hd; simp [go_sem]
    | 2, hd => simp at hd; try (subst hd; simp [go_sem])
    | j + 3, hd => simp at hd)
  have HB := hide bel
  have G' : Calls Try.prog 33 #[.int .i64 w, .int .i64 h, .bool wx, .bool wy, .slice (some ⟨W.heap.size, 0, none⟩) 2 2] (W.alloc (.cells #[.int .i64 1, .int .i64 0, .int .i64 0, .int .i64 1] 56)) (GRes (gridR w h wx wy dsq) (W.alloc (.cells #[.int .i64 1, .int .i64 0, .int .i64 0, .int .i64 1] 56))) := G
  have HG := hide G'
  have b1 := build56 1 0
  have b2 := build56 0 1
  have b3 := build56 1 1
  clear bel G G'
  generalize gridR w h wx wy dsq = r at *
  obtain ⟨r1, r2, r3⟩ := r
  go_enter Try.func14, Try.ntmps14
  go_wp2_with (refine wpList_m63a rfl _ _ rfl rfl rfl ?_)
  refine HG.out.mono ?_
  rintro e w1 ⟨v, rfl, rd, bw⟩
  have HR := hide rd
  have HW := hide bw
  clear rd bw
  go_wp2_with fail
  go_ret3
  exact ⟨_, rfl, HR.out, HB.out.trans (HW.out.mono HB.out.size)⟩
set_option maxRecDepth 100000 in
set_option maxHeartbeats 4000000 in
theorem sq_18 (w h : Int) (wx wy : Bool) (W : World) : Calls Try.prog 18 #[.int .i64 w, .int .i64 h, .bool wx, .bool wy] W (GRes (gridR w h wx wy dtri) W) := by
  have bel : Below W.heap.size W (W.alloc (.cells #[.int .i64 1, .int .i64 0, .int .i64 0, .int .i64 1, .int .i64 1, .int .i64 1] 56)) := (Below.refl _ _).alloc (Nat.le_refl _) _
  have G := grid_any w h wx wy dtri ⟨by decide, by decide⟩ (W.alloc (.cells #[.int .i64 1, .int .i64 0, .int .i64 0, .int .i64 1, .int .i64 1, .int .i64 1] 56)) W.heap.size 3 (by simp) (by
    intro j d hd
    unfold dtri at hd
    match j, hd with
    | 0, hd => simp at hd; subst hd; simp [go_sem]
    | 1, hd => simp at hd; subst hd; simp [go_sem]
    | 2, hd => simp at hd; try (subst hd; simp [go_sem])
    | j + 3, hd => simp at hd)
  have HB := hide bel
  have G' : Calls Try.prog 33 #[.int .i64 w, .int .i64 h, .bool wx, .bool wy, .slice (some ⟨W.heap.size, 0, none⟩) 3 3] (W.alloc (.cells #[.int .i64 1, .int .i64 0, .int .i64 0, .int .i64 1, .int .i64 1, .int .i64 1] 56)) (GRes (gridR w h wx wy dtri) (W.alloc (.cells #[.int .i64 1, .int .i64 0, .int .i64 0, .int .i64 1, .int .i64 1, .int .i64 1] 56))) := G
  have HG := hide G'
  have b1 := build56 1 0
  have b2 := build56 0 1
  have b3 := build56 1 1
  clear bel G G'
  generalize gridR w h wx wy dtri = r at *
  obtain ⟨r1, r2, r3⟩ := r
  go_enter Try.func18, Try.ntmps18
  go_wp2_with (refine wpList_m63b rfl _ _ _ rfl rfl rfl rfl ?_)
  refine HG.out.mono ?_
  rintro e w1 ⟨v, rfl, rd, bw⟩
  have HR := hide rd
  have HW := hide bw
  clear rd bw
  go_wp2_with fail
  go_ret3
  exact ⟨_, rfl, HR.out, HB.out.trans (HW.out.mono HB.out.size)⟩
set_option maxRecDepth 100000 in
set_option maxHeartbeats 4000000 in
theorem sq_15 (w h : Int) (wx wy : Bool) (W : World) : Calls Try.prog 15 #[.int .i64 w, .int .i64 h, .bool wx, .bool wy] W (GRes (gridR w h wx wy dsq) W) := by
  have G' : Calls Try.prog 34 #[.int .i64 w, .int .i64 h, .bool wx, .bool wy, .bool false] W (GRes (gridR w h wx wy dsq) W) := sgrid_any w h wx wy false W
  have HG := hide G'
  clear G'
  generalize gridR w h wx wy dsq = r at *
  obtain ⟨r1, r2, r3⟩ := r
  go_enter Try.func15, Try.ntmps15
  go_wp2_with fail
  refine HG.out.mono ?_
  rintro e w1 ⟨v, rfl, rd, bw⟩
  have HR := hide rd
  have HW := hide bw
  clear rd bw
  go_wp2_with fail
  go_ret3
  exact ⟨_, rfl, HR.out, HW.out⟩
set_option maxRecDepth 100000 in
set_option maxHeartbeats 4000000 in
theorem sq_19 (w h : Int) (wx wy : Bool) (W : World) : Calls Try.prog 19 #[.int .i64 w, .int .i64 h, .bool wx, .bool wy] W (GRes (gridR w h wx wy dtri) W) := by
  have G' : Calls Try.prog 34 #[.int .i64 w, .int .i64 h, .bool wx, .bool wy, .bool true] W (GRes (gridR w h wx wy dtri) W) := sgrid_any w h wx wy true W
  have HG := hide G'
  clear G'
  generalize gridR w h wx wy dtri = r at *
  obtain ⟨r1, r2, r3⟩ := r
  go_enter Try.func19, Try.ntmps19
  go_wp2_with fail
  refine HG.out.mono ?_
  rintro e w1 ⟨v, rfl, rd, bw⟩
  have HR := hide rd
  have HW := hide bw
  clear rd bw
  go_wp2_with fail
  go_ret3
  exact ⟨_, rfl, HR.out, HW.out⟩
theorem gridR_len (w h : Int) (wx wy : Bool) (ds : List (Nat × Nat)) (hd : ds.length ≤ 3) : (gridR w h wx wy ds).2.2.length ≤ 1000000 := by
  by_cases g : gridP w h
  · obtain ⟨a, b, rfl, rfl⟩ := g.nat
    rw [gridR_yes wx wy ds g]
    have := gE_len a b wx wy ds (a * b)
    have hp : a * b ≤ 4096 := by have := g.2.2; rw [← Int.natCast_mul] at this; omega
    have c : a * b * ds.length ≤ 4096 * 3 := Nat.mul_le_mul hp hd
    show (gE a b wx wy ds (a * b)).length ≤ 1000000
    omega
  · rw [gridR_no wx wy ds g]; simp
end Go.Proofs.Ythgeccmphnppgaa
