/- Coarse. -/
import Derived.Test.YtenoalfjobghnaaHV
import Derived.StillTailTactics
set_option linter.unusedVariables false
set_option linter.unusedSimpArgs false
namespace Go.Proofs.Ytenoalfjobghnaa
open Go.RowKit

/-- a goal that is not laid open while terms are elaborated -/
structure Bx (p : Prop) : Prop where
  out : p
theorem wpStill_stepB {P : Program} {ops : Array Oper} {w : World} {Q : Act → Prop} {a : Act} {o : Oper} {rest : List Oper}
    (h : ∀ K : Act → Prop, (∀ a, Bx (wpStill P ops w Q rest a) → K a) → Bx (if Region.wanted o (yielded ops a.tmps) then o.still P a w K else K (a.put o.dst undef))) : Bx (wpStill P ops w Q (o :: rest) a) :=
  ⟨wpStill_step (fun K hK => (h K (fun a hb => hK a hb.out)).out)⟩
theorem wpStill_nilB {P : Program} {ops : Array Oper} {w : World} {Q : Act → Prop} {a : Act} (h : Q a) : Bx (wpStill P ops w Q [] a) := ⟨h⟩
/-- the counts without bound number i -/
def mrg (C : Nat → Int) (i : Nat) : Nat → Int := fun j => if j < i then C j else if j = i then C i + C (i + 1) else C (j + 1)
theorem mrg_cut (C : Nat → Int) (i : Nat) : cut (updI C i (C i + C (i + 1))) (i + 1) = mrg C i := by
  funext j
  unfold cut updI mrg
  by_cases h : j < i
  · rw [if_pos (by omega), if_neg (by omega), if_pos h]
  · rw [if_neg h]
    by_cases e : j = i
    · rw [if_pos (by omega), if_pos e, if_pos e]
    · rw [if_neg (by omega), if_neg (by omega), if_neg e]
theorem mrg_sum (C : Nat → Int) (i : Nat) : ∀ m, i < m → sumI (mrg C i) m = sumI C (m + 1) := by
  intro m
  induction m with
  | zero => intro h; omega
  | succ m ih =>
    intro h
    by_cases e : i = m
    · subst e
      have q : sumI (mrg C i) i = sumI C i := sumI_congr fun j hj => by unfold mrg; rw [if_pos hj]
      simp only [sumI, q]
      unfold mrg
      rw [if_neg (by omega), if_pos rfl]
      omega
    · rw [show sumI (mrg C i) (m + 1) = sumI (mrg C i) m + mrg C i m from rfl, ih (by omega), show sumI C (m + 1 + 1) = sumI C (m + 1) + C (m + 1) from rfl]
      unfold mrg
      rw [if_neg (by omega), if_neg (by omega)]
theorem mrg_nn {C : Nat → Int} {m i : Nat} (hi : i < m) (nn : ∀ j, j < m + 1 → 0 ≤ C j) : ∀ j, j < m - 1 + 1 → 0 ≤ mrg C i j := by
  intro j hj
  unfold mrg
  by_cases h : j < i
  · rw [if_pos h]; exact nn j (by omega)
  · rw [if_neg h]
    by_cases e : j = i
    · rw [if_pos e]; have := nn i (by omega); have := nn (i + 1) (by omega); omega
    · rw [if_neg e]; exact nn (j + 1) (by omega)
theorem cut_inc {V : Nat → Int} {m i : Nat} (inc : Inc V m) : Inc (cut V i) (m - 1) := by
  intro a b h1 h2
  unfold cut
  by_cases ha : a < i <;> by_cases hb : b < i
  · rw [if_pos ha, if_pos hb]; exact inc a b h1 (by omega)
  · rw [if_pos ha, if_neg hb]; exact inc a (b + 1) (by omega) (by omega)
  · omega
  · rw [if_neg ha, if_neg hb]; exact inc (a + 1) (b + 1) (by omega) (by omega)
theorem coarse_e {B : Nat} {w : World} {b : Nat} {vB vC : Value} {m : Nat} {V C : Nat → Int} (M : HM B w b vB vC m V C) (i : Int) (no : i < 0 ∨ (m : Int) ≤ i) :
    Calls Try.prog 27 #[.pointer (some ⟨b, 0, none⟩), .int .i64 i] w fun e w' => e = .returned (.tuple #[.pointer none, .int .i64 3]) ∧ w = w' := by
  obtain ⟨g, c, rfl⟩ := M.C_at
  obtain ⟨p, cb, rfl⟩ := row_slice M.rB
  have v0 := hide (valid_t M.c.2)
  have c0 := M.c.1
  have hp := ptrH
  clear M
  by_cases h : i < 0
  · have d0 : decide (i < 0) = true := by simpa using h
    clear no h
    go_enter Try.func27, Try.ntmps27
    go_wp2_with fail
    refine v0.out.mono ?_
    rintro e w' ⟨rfl, rfl⟩
    go_wp2_with fail
    go_ret2
    exact ⟨rfl, rfl⟩
  · have d0 : decide (i < 0) = false := by simpa using h
    have d1 : decide ((m : Int) ≤ i) = true := by simp; omega
    clear no h
    go_enter Try.func27, Try.ntmps27
    go_wp2_with fail
    refine v0.out.mono ?_
    rintro e w' ⟨rfl, rfl⟩
    go_wp2_with fail
    go_ret2
    exact ⟨rfl, rfl⟩
set_option maxRecDepth 1000000 in
set_option maxHeartbeats 8000000 in
theorem coarse_t {S : Nat} {w : World} {a : Id} {m : Nat} {V C : Nat → Int} (G : HI S w a m V C) (i : Nat) (hi : i < m) :
    Calls Try.prog 27 #[.pointer (some ⟨a.b, 0, none⟩), .int .i64 (i : Int)] w fun e w' => ∃ d : Id, e = .returned (.tuple #[.pointer (some ⟨d.b, 0, none⟩), .int .i64 0]) ∧ HI w.heap.size w' d (m - 1) (cut V i) (mrg C i) ∧ Kp [] w w' := by
  obtain ⟨b, vB, vC⟩ := a
  have M : HM S w b vB vC m V C := G.M
  obtain ⟨g, c, rfl⟩ := M.C_at
  obtain ⟨p, cb, rfl⟩ := row_slice M.rB
  have v0 := hide (valid_t M.c.2)
  have c0 := M.c.1
  have CP := hide (copy_t M G.hm)
  have hp := ptrH
  have d0 : decide ((i : Int) < 0) = false := by simp
  have d1 : decide ((m : Int) ≤ (i : Int)) = false := by simp; omega
  have d1' : decide (m ≤ i) = false := by simp; omega
  obtain ⟨i1, hi1⟩ : ∃ x, x = i + 1 := ⟨_, rfl⟩
  obtain ⟨i2, hi2⟩ : ∃ x, x = i + 2 := ⟨_, rfl⟩
  have hm := G.hm
  have w1' : IntKind.i64.wrap ((i : Int) + 1) = (i1 : Int) := by rw [IntKind.wrap_i64]; omega
  have w2' : IntKind.i64.wrap ((i : Int) + 2) = (i2 : Int) := by rw [IntKind.wrap_i64]; omega
  have HG' := hide G
  have E1 := hide (show i1 = i + 1 ∧ i2 = i + 2 ∧ i < m from ⟨hi1, hi2, hi⟩)
  clear G M hm hi hi1 hi2
  go_enter Try.func27, Try.ntmps27
  go_wp2_with fail
  refine v0.out.mono ?_
  rintro e w' ⟨rfl, rfl⟩
  go_wp2_with fail
  refine CP.out.mono ?_
  rintro e w1 ⟨d, wB, wC, rfl, M1, k1⟩
  obtain ⟨gC, cC, rfl⟩ := M1.C_at
  obtain ⟨pB, cB, rfl⟩ := row_slice M1.rB
  obtain ⟨gB, rfl⟩ := rowSome M1.rB (by have := E1.out; omega)
  have H1 := hide M1
  have K1 := hide k1
  have b0 := M1.c.1
  have ng : gB ≠ d ∧ gC ≠ d ∧ gB ≠ gC := ⟨M1.nB gB rfl, M1.nC gC rfl, fun e => M1.ne gB rfl (by rw [e]; rfl)⟩
  have NG := hide ng
  have D1 := hide (delete_t M1.rB (i := i) (by have := E1.out; omega) (by have := HG'.out.hm; omega))
  rw [← E1.out.1] at D1
  have OO := hide (show ∀ z ∈ [d, gB, gC], w.heap.size ≤ z from fun z hz => by
    have h0 := H1.out.lt d (by simp [HM.own])
    have h1 := H1.out.lt gB (by simp [HM.own, Value.ownBlock])
    have h2 := H1.out.lt gC (by simp [HM.own, Value.ownBlock])
    simp at hz
    omega)
  clear M1 k1 ng CP v0 c0 d0 d1 d1'
  go_wp2_with fail
  refine D1.out.mono ?_
  rintro e w2 ⟨rfl, r2, k2⟩
  have bd2 := k2.blk H1.out.blk (by have := NG.out; simp; omega)
  have rC2 := hide (k2.row H1.out.rC (fun k hk => by simp [Value.ownBlock] at hk; have := NG.out; simp; omega))
  have R2 := hide r2
  have K2 := hide (k2.mono (p := [d, gB, gC]) (by simp))
  have x0 : w2.cell? ⟨d, 0, none⟩ = some (.slice (some ⟨gB, 0, none⟩) m cB) := by simp [cell_of_blk bd2]
  have f0 := free_of_blk bd2 0
  obtain ⟨W3, hW3⟩ : ∃ W, W = w2.setCell ⟨d, 0, none⟩ (.slice (some ⟨gB, 0, none⟩) (m - 1) cB) := ⟨_, rfl⟩
  have HW3 := hide hW3
  have bd3 := hide (show W3.heap[d]? = some (.cells #[.slice (some ⟨gB, 0, none⟩) (m - 1) cB, .slice (some ⟨gC, 0, none⟩) (m + 1) cC] 54 (0, 0)) by rw [hW3]; exact heap_setCell_same _ _ 0 _ _ _ bd2)
  have rB3 := hide (show W3.ownsRow w.heap.size 2 1 (.slice (some ⟨gB, 0, none⟩) (m - 1) cB) (m - 1) (intsI (m - 1) (cut V i)) by rw [hW3]; exact row_side R2.out (fun k hk => by simp [Value.ownBlock] at hk; have := NG.out; omega) _ _)
  have rC3 := hide (show W3.ownsRow w.heap.size 2 1 (.slice (some ⟨gC, 0, none⟩) (m + 1) cC) (m + 1) (intsI (m + 1) C) by rw [hW3]; exact row_side rC2.out (fun k hk => by simp [Value.ownBlock] at hk; have := NG.out; omega) _ _)
  have K3 := hide (show Kp [d, gB, gC] w1 W3 by rw [hW3]; exact K2.out.trans (Kp.set (o := [d, gB, gC]) w2 ⟨d, 0, none⟩ _ (by simp)) (fun z hz => .inl hz))
  have cl : m + 1 ≤ cC ∧ cC ≤ maxLen := by
    rcases rC2.out.2 with ⟨he, _⟩ | ⟨g', cap, cur, he, _, _, h1, h2, _⟩
    · cases he
    · injection he with _ _ h; subst h; exact ⟨h1, h2⟩
  unfold maxLen at cl
  have CL := hide cl
  clear r2 k2 bd2 D1 b0 cl hW3 K2
  go_wp2_with fail
  rw [← HW3.out]
  clear x0 f0
  have l1 : i < cC := by have := E1.out; have := CL.out; omega
  have l0 : ¬ cC = i := by omega
  have l2 : i2 ≤ cC := by have := E1.out; have := CL.out; omega
  have l3 : i ≤ i2 := by have := E1.out; omega
  have l4 : (i : Int) < (m : Int) + 1 := by have := E1.out; omega
  have y1 : W3.cell? ⟨d, 1, none⟩ = some (.slice (some ⟨gC, 0, none⟩) (m + 1) cC) := by simp [cell_of_blk bd3.out]
  obtain ⟨gq, hq, e1, f1, _⟩ := row_cell rC3.out (show i < m + 1 by have := E1.out; omega)
  injection hq with hq; injection hq with hq; subst hq
  rw [intsI_get C (show i < m + 1 by have := E1.out; omega)] at e1
  have t0 := sumI_nn HG'.out.nn i (by have := E1.out; omega)
  have t1 := sumI_mono HG'.out.nn (m + 1) (i + 1 + 1) (by have := E1.out; omega) (Nat.le_refl _)
  have t2 := HG'.out.top
  have t3 : sumI C (i + 1 + 1) = sumI C i + C i + C (i + 1) := rfl
  have i22 : i2 - i = 2 := by have := E1.out; omega
  have SU := hide (sum_t (w := W3.drew) (g := gC) (off := i) (n := i2 - i) (c := cC - i) (f := fun j => C (i + j)) (fun j hj => by
      have := rC3.out.cellAt (i + j) (by have := E1.out; omega)
      rw [intsI_get C (show i + j < m + 1 by have := E1.out; omega)] at this
      simpa using this) (by omega) (fun j hj => HG'.out.nn _ (by have := E1.out; omega)) (by rw [i22]; show 0 + C (i + 0) + C (i + 1) ≤ _; rw [Nat.add_zero]; omega))
  have sv : sumI (fun j => C (i + j)) (i2 - i) = C i + C (i + 1) := by rw [i22]; show 0 + C (i + 0) + C (i + 1) = _; rw [Nat.add_zero]; omega
  rw [sv] at SU
  clear t0 t1 t2 t3 sv i22
  obtain ⟨sm, hsm⟩ : ∃ s, s = C i + C (i + 1) := ⟨_, rfl⟩
  rw [← hsm] at SU
  have HSM := hide hsm
  generalize hci : C i = ci at e1
  clear hsm hci
  go_wp2_with fail
  refine wp_region_still_tail 15 (by kernel_rfl) (by kernel_rfl) ?_
  simp only [List.take_succ_cons, List.take_zero, List.drop_succ_cons, List.drop_zero]
  obtain ⟨wd, hwd⟩ : ∃ wd : World, wd = W3.drew := ⟨_, rfl⟩
  have y2 : wd.cell? ⟨d, 1, none⟩ = some (.slice (some ⟨gC, 0, none⟩) (m + 1) cC) := by rw [hwd]; exact y1
  have e2 : wd.cell? ⟨gC, i, none⟩ = some (.int .i64 ci) := by rw [hwd]; exact e1
  have f2 : wd.frozen? ⟨gC, i, none⟩ = false := by rw [hwd]; exact f1
  have kd := hide (show Kp [] W3 wd by rw [hwd]; exact Kp.drewN _ _ 1)
  have SC : Calls Try.prog 44 #[.slice (some ⟨gC, i, none⟩) (i2 - i) (cC - i)] wd fun e w'' => e = .returned (.int .i64 sm) ∧ w'' = wd := by rw [hwd]; exact SU.out.mono (by rintro e w' ⟨rfl, rfl⟩; exact ⟨rfl, rfl⟩)
  have HSC := hide SC
  have hwd' : ({ W3 with drawn := W3.drawn + 1 } : World) = wd := hwd.symm
  rw [hwd']
  clear hwd hwd' y1 e1 f1 SC SU
  refine Bx.out ?_
  (refine wpStill_stepB (fun K hK => ?_); constructor; go_simp; refine hK _ ?_; clear hK K)
  (refine wpStill_stepB (fun K hK => ?_); constructor; go_simp; refine hK _ ?_; clear hK K)
  (refine wpStill_stepB (fun K hK => ?_); constructor; go_simp; refine hK _ ?_; clear hK K)
  (refine wpStill_stepB (fun K hK => ?_); constructor; go_simp; refine hK _ ?_; clear hK K)
  (refine wpStill_stepB (fun K hK => ?_); constructor; go_simp; refine hK _ ?_; clear hK K)
  (refine wpStill_stepB (fun K hK => ?_); constructor; go_simp; refine hK _ ?_; clear hK K)
  (refine wpStill_stepB (fun K hK => ?_); constructor; go_simp; refine hK _ ?_; clear hK K)
  (refine wpStill_stepB (fun K hK => ?_); constructor; go_simp; refine hK _ ?_; clear hK K)
  (refine wpStill_stepB (fun K hK => ?_); constructor; go_simp; refine hK _ ?_; clear hK K)
  (refine wpStill_stepB (fun K hK => ?_); constructor; go_simp; refine hK _ ?_; clear hK K)
  (refine wpStill_stepB (fun K hK => ?_); constructor; go_simp; refine hK _ ?_; clear hK K)
  (refine wpStill_stepB (fun K hK => ?_); constructor; go_simp; refine hK _ ?_; clear hK K)
  (refine wpStill_stepB (fun K hK => ?_); constructor; go_simp; refine hK _ ?_; clear hK K)
  (refine wpStill_stepB (fun K hK => ?_); constructor; go_simp; refine ⟨.int .i64 sm, HSC.out, hK _ ?_⟩; clear hK K)
  (refine wpStill_stepB (fun K hK => ?_); constructor; go_simp; refine hK _ ?_; clear hK K)
  refine wpStill_nilB ?_
  obtain ⟨W4, hW4⟩ : ∃ W, W = wd.setCell ⟨gC, i, none⟩ (.int .i64 sm) := ⟨_, rfl⟩
  have HW4 := hide hW4
  have bdd := kd.out.blk bd3.out (by simp)
  have bd4 := hide (show W4.heap[d]? = some (.cells #[.slice (some ⟨gB, 0, none⟩) (m - 1) cB, .slice (some ⟨gC, 0, none⟩) (m + 1) cC] 54 (0, 0)) by
    rw [hW4]; exact (Kp.set (o := [gC]) wd ⟨gC, i, none⟩ (.int .i64 sm) (by simp)).blk bdd (by have := NG.out; simp; omega))
  have rB4 := hide (show W4.ownsRow w.heap.size 2 1 (.slice (some ⟨gB, 0, none⟩) (m - 1) cB) (m - 1) (intsI (m - 1) (cut V i)) by rw [hW4]; exact row_side (kd.out.row rB3.out (by simp)) (fun k hk => by simp [Value.ownBlock] at hk; have := NG.out; omega) _ _)
  have rC4 := hide (show W4.ownsRow w.heap.size 2 1 (.slice (some ⟨gC, 0, none⟩) (m + 1) cC) (m + 1) (intsI (m + 1) (updI C i sm)) by rw [hW4, ← intsI_set]; exact row_put (kd.out.row rC3.out (by simp)) _ _)
  have K4 := hide (show Kp [d, gB, gC] w1 W4 by rw [hW4]; exact (K3.out.trans kd.out (by simp)).trans (Kp.set (o := [d, gB, gC]) wd ⟨gC, i, none⟩ _ (by simp)) (fun z hz => .inl hz))
  have D4 := hide (delete_t rC4.out (i := i1) (by have := E1.out; omega) (by have := HG'.out.hm; omega))
  rw [show i1 + 1 = i2 by have := E1.out; omega] at D4
  have e8 : (wd.setCell ⟨gC, i, none⟩ (.int .i64 sm)).cell? ⟨d, 1, none⟩ = some (.slice (some ⟨gC, 0, none⟩) (m + 1) cC) := by rw [← hW4]; simp [cell_of_blk bd4.out]
  clear hW4 bdd y2
  go_wp2_with fail
  rw [← HW4.out]
  refine D4.out.mono ?_
  rintro e w5 ⟨rfl, r5, k5⟩
  have bd5 := k5.blk bd4.out (by have := NG.out; simp; omega)
  have rB5 := hide (k5.row rB4.out (fun k hk => by simp [Value.ownBlock] at hk; have := NG.out; simp; omega))
  rw [show m + 1 - 1 = m by omega] at r5
  have R5 := hide r5
  have K5 := hide (K4.out.trans (k5.mono (p := [d, gB, gC]) (by simp)) (fun z hz => .inl hz))
  have x1 : w5.cell? ⟨d, 1, none⟩ = some (.slice (some ⟨gC, 0, none⟩) (m + 1) cC) := by simp [cell_of_blk bd5]
  have f5 := free_of_blk bd5 1
  have bd6 := hide (show (w5.setCell ⟨d, 1, none⟩ (.slice (some ⟨gC, 0, none⟩) m cC)).heap[d]? = some (.cells #[.slice (some ⟨gB, 0, none⟩) (m - 1) cB, .slice (some ⟨gC, 0, none⟩) m cC] 54 (0, 0)) from heap_setCell_same _ _ 1 _ _ _ bd5)
  have rB6 := hide (show (w5.setCell ⟨d, 1, none⟩ (.slice (some ⟨gC, 0, none⟩) m cC)).ownsRow w.heap.size 2 1 (.slice (some ⟨gB, 0, none⟩) (m - 1) cB) (m - 1) (intsI (m - 1) (cut V i)) from row_side rB5.out (fun k hk => by simp [Value.ownBlock] at hk; have := NG.out; omega) _ _)
  have rC6 := hide (show (w5.setCell ⟨d, 1, none⟩ (.slice (some ⟨gC, 0, none⟩) m cC)).ownsRow w.heap.size 2 1 (.slice (some ⟨gC, 0, none⟩) m cC) m (intsI m (cut (updI C i sm) i1)) from row_side R5.out (fun k hk => by simp [Value.ownBlock] at hk; have := NG.out; omega) _ _)
  have K6 := hide (show Kp [] w (w5.setCell ⟨d, 1, none⟩ (.slice (some ⟨gC, 0, none⟩) m cC)) from K1.out.trans (K5.out.trans (Kp.set (o := [d, gB, gC]) w5 ⟨d, 1, none⟩ _ (by simp)) (fun z hz => .inl hz)) (fun z hz => .inr (OO.out z hz)))
  clear r5 k5 bd5 D4 e8 e2 f2 kd HSC
  go_wp2_with fail
  go_ret2
  refine ⟨⟨d, .slice (some ⟨gB, 0, none⟩) (m - 1) cB, .slice (some ⟨gC, 0, none⟩) m cC⟩, rfl, ⟨⟨bd6.out, rB6.out, ?_, OO.out d (by simp), fun k hk => ?_, fun k hk => ?_, fun k hk e => ?_⟩, ?_, cut_inc HG'.out.inc, mrg_nn E1.out.2.2 HG'.out.nn, ?_⟩, K6.out⟩
  · have := rC6.out
    rw [E1.out.1, HSM.out, mrg_cut] at this
    have em : m - 1 + 1 = m := by have := E1.out; omega
    rw [em]
    exact this
  · show k ≠ d; simp [Value.ownBlock] at hk; have := NG.out; omega
  · show k ≠ d; simp [Value.ownBlock] at hk; have := NG.out; omega
  · simp [Value.ownBlock] at hk e; have := NG.out; omega
  · have := HG'.out.hm; omega
  · rw [show m - 1 + 1 = m by have := E1.out; omega, mrg_sum C i m E1.out.2.2]; exact HG'.out.top
end Go.Proofs.Ytenoalfjobghnaa
