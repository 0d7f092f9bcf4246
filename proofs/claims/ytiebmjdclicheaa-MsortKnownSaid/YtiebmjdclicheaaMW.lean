/- The law's examples hold. -/
import Derived.Test.YtiebmjdclicheaaMK
set_option linter.unusedVariables false
set_option linter.unusedSimpArgs false
namespace Go.Proofs.Ytiebmjdclicheaa
open Go.RowKit

theorem ex_permA : permA 1 ex4 = [3, 1, 0, 2] := by decide
theorem ex_chk : chk ex4.length 1 = 0 := by decide
set_option maxRecDepth 100000 in
set_option maxHeartbeats 8000000 in
theorem works_t (w : World) : Calls Try.prog 14 #[] w fun e w' => e = .returned (.bool true) ∧ Kp [] w w' := by
  have EX := hide example_t
  have PE := hide (fun w : World => permP_t (c := 4) (k := 1) (l := ex4) ⟨by decide, by unfold maxLen; decide⟩ (ex_read w))
  rw [ex_permA, ex_chk] at PE
  have IE := hide (fun w : World => ex_invs (w := w) (ex_read w))
  go_enter Try.func14, Try.ntmps14
  go_wp2_with fail
  refine (EX.out _).mono ?_
  rintro e w1 ⟨rfl, rfl⟩
  go_wp2_with fail
  refine (PE.out _).mono ?_
  rintro e w2 ⟨v, rfl, r, k2⟩
  obtain ⟨p, c, rfl⟩ := row_slice r
  have K2 := hide ((Kp.alloc w _).trans0 k2)
  have R2 := hide (row_mono r (Nat.zero_le _))
  clear k2 r
  go_wp2_with fail
  refine (EX.out _).mono ?_
  rintro e w3 ⟨rfl, rfl⟩
  go_wp2_with fail
  refine (IE.out _).mono ?_
  rintro e w4 ⟨rfl, k4⟩
  have k5 := (Kp.alloc w2 _).trans0 k4
  have K5 := hide (K2.out.trans0 k5)
  have R4 := k5.row R2.out (by simp)
  obtain ⟨g, hpp, e0, _, _⟩ := row_cell R4 (k := 0) (by decide)
  subst hpp
  obtain ⟨_, hpp, e1, _, _⟩ := row_cell R4 (k := 1) (by decide)
  injection hpp with hpp; injection hpp with hpp; subst hpp
  obtain ⟨_, hpp, e2, _, _⟩ := row_cell R4 (k := 2) (by decide)
  injection hpp with hpp; injection hpp with hpp; subst hpp
  obtain ⟨_, hpp, e3, _, _⟩ := row_cell R4 (k := 3) (by decide)
  injection hpp with hpp; injection hpp with hpp; subst hpp
  simp only [List.map, encI, List.getElem?_cons_zero, List.getElem?_cons_succ] at e0 e1 e2 e3
  clear k4 k5 R4
  simp only [List.length_cons, List.length_nil, Nat.zero_add]
  go_wp2_with fail
  go_ret
  exact ⟨rfl, K5.out⟩
end Go.Proofs.Ytiebmjdclicheaa
