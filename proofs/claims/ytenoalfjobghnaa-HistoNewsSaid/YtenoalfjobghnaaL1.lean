/- HistoNews holds: New returns an empty histogram, or ErrArg, as the document says. -/
import Derived.Test.YtenoalfjobghnaaHU
import Derived.Test.YtenoalfjobghnaaOp
import Derived.Test.YtenoalfjobghnaaRows
import Derived.Deep.CutRange
import Derived.StillTailTactics
set_option linter.unusedVariables false
set_option linter.unusedSimpArgs false
namespace Go.Proofs.Ytenoalfjobghnaa
open Go.RowKit
namespace lawNews
open Go.ChangeShapes Go.WideShapes Go.ChangeAt Go.RowKit Go.Joins
set_option maxRecDepth 100000 in
set_option maxHeartbeats 8000000 in
theorem walk (s0 : Option Addr) (len0 cap0 : Nat) (V0 : Nat → Nat → Int) (a1 : Int) (w : World) (hc0 : len0 ≤ cap0 ∧ cap0 ≤ maxLen) (hr0 : RowsI w s0 [.i64] len0 V0) (b1 : -9223372036854775808 ≤ a1 ∧ a1 ≤ 9223372036854775807) : Calls Try.prog 3 #[.slice s0 len0 cap0, .int .i64 a1] w fun e w' => e = .returned (.bool true) ∧ Below w.heap.size w w' := by
  have R := rd_of hr0
  generalize hV : (fun i => V0 i 0) = V at R
  clear hr0 hV b1
  by_cases hl0 : 1100 < len0
  · have d0 : decide ((1100 : Int) < (len0 : Int)) = true := by simp; omega
    have d0' : decide (1100 < len0) = true := by simp; omega
    clear R hl0 hc0
    go_enter Try.func3, Try.ntmps3
    go_wp2_with fail
    refine (works _).mono ?_
    rintro e w2 ⟨rfl, bw⟩
    have HW := hide bw
    clear bw
    go_wp2_with fail
    go_ret
    exact ⟨rfl, HW.out⟩
  have d0 : decide ((1100 : Int) < (len0 : Int)) = false := by simp; omega
  have d0' : decide (1100 < len0) = false := by simp; omega
  have HR := hide R
  clear hl0 hc0 R
  by_cases hok : okN len0 V
  · have N := hide (new_i (c := cap0) HR.out hok.1 hok.2)
    have HOK := hide hok
    clear hok
    go_enter Try.func3, Try.ntmps3
    go_wp2_with fail
    refine N.out.mono ?_
    rintro e w1 ⟨ia, rfl, g1, k1⟩
    have G1 := hide g1
    have K1 := hide k1
    have N2 := hide (rnew_i (c := cap0) (HR.out.below k1) HOK.out.1 HOK.out.2)
    clear g1 k1 N
    go_wp2_with fail
    refine N2.out.mono ?_
    rintro e w2 ⟨ib, rfl, g2, k2⟩
    have A := hide (agree_t (G1.out.keep0 k2) g2 a1)
    have K2 := hide (K1.out.trans0 k2)
    unfold ptr at A
    clear g2 k2 N2
    go_wp2_with fail
    refine A.out.mono ?_
    rintro e w3 ⟨rfl, k3⟩
    have K3 := hide (K2.out.trans0 k3)
    clear k3 A
    go_wp2_with fail
    refine (works _).mono ?_
    rintro e w4 ⟨rfl, bw⟩
    have HW := hide bw
    clear bw
    go_wp2_with fail
    go_ret
    exact ⟨rfl, (K3.out.below (by simp) (Nat.le_refl _)).trans (HW.out.mono K3.out.size)⟩
  · have N := hide (new_e (c := cap0) HR.out hok)
    have HOK := hide hok
    clear hok
    go_enter Try.func3, Try.ntmps3
    go_wp2_with fail
    refine N.out.mono ?_
    rintro e w1 ⟨rfl, k1⟩
    have K1 := hide k1
    have N2 := hide (rnew_e (c := cap0) (HR.out.below k1) HOK.out)
    clear k1 N
    go_wp2_with fail
    refine N2.out.mono ?_
    rintro e w2 ⟨rfl, k2⟩
    have A := hide (agree_n w2 a1)
    have K2 := hide (K1.out.trans0 k2)
    clear k2 N2
    go_wp2_with fail
    refine A.out.mono ?_
    rintro e w3 ⟨rfl, k3⟩
    have K3 := hide (K2.out.trans0 k3)
    clear k3 A
    go_wp2_with fail
    refine (works _).mono ?_
    rintro e w4 ⟨rfl, bw⟩
    have HW := hide bw
    clear bw
    go_wp2_with fail
    go_ret
    exact ⟨rfl, (K3.out.below (by simp) (Nat.le_refl _)).trans (HW.out.mono K3.out.size)⟩
theorem own : ownKnob Try.prog.godebug = none := by kernel_rfl
theorem laidOut : laidOutB Try.prog = true := by kernel_rfl
set_option maxRecDepth 100000 in
theorem lifted (os : Os) (started : os.Started) (H : Type) (enc : TypeId × Value → H) :
    ReturnsInHanded {} Try.checked os 3 .any (Rows.histoNewsSpec.pre6 enc Try.prog Try.f3 Rows.histoNewsRow.domain false) (Rows.histoNewsSpec.post enc Try.prog Try.f3 false true false false) := by
  refine returnsInHanded_of_change (C := Try.checked) own started (by kernel_rfl) Try.func3
    (ChangeSpec.witness6 (enc := enc) (C := Try.checked) false ⟨#[], #[.slice none 0 0, .int .i64 0], []⟩ 8 (by kernel_rfl) (by kernel_rfl) (by kernel_rfl) (by kernel_rfl)) ?_
  intro W base args ds gs before hval0 hW hcnd _
  have hval : ∀ (j : Nat) t v, Try.f3.params[j]? = some t → args[j]? = some v → Value.okWide Try.prog W .any base t v := hval0
  have hW' := hW
  obtain ⟨p, q, hA0, hV, rfl, hfz, hnd⟩ := hW
  have hA : DataW.TrodAll enc Try.prog W 0 (fun _ => true) true Try.f3.params.toList args.toList ds p := hA0
  rw [Try.params3] at hA hval
  obtain ⟨v0, vs0, d0, ds0, p0, q0, hargs, rfl, rfl, h0, r0⟩ := trodAll_cons hA
  obtain ⟨v1, vs1, d1, ds1, p1, q1, rfl, rfl, rfl, h1, r1⟩ := trodAll_cons r0
  obtain ⟨rfl, rfl, rfl⟩ := trodAll_nil r1
  obtain rfl : args = #[v0, v1] := by cases args; simp_all
  obtain ⟨rfl, rfl⟩ := trodVars_none hV
  have k0 := h0
  have lt0 : ∀ x ∈ p0, x.block < W.heap.size := by obtain ⟨m, hm⟩ := k0; exact DataW.trod_lt m _ _ _ hm
  have k1 := h1
  have lt1 : ∀ x ∈ p1, x.block < W.heap.size := by obtain ⟨m, hm⟩ := k1; exact DataW.trod_lt m _ _ _ hm
  obtain ⟨s0, len0, cap0, rfl⟩ := okWide_slice Try.underlying22 (hval 0 22 v0 rfl rfl)
  obtain ⟨V0, hc0, hr0⟩ := rows_in Try.underlying22 (flat_int Try.underlying2 (by kernel_rfl)) (by decide) h0
  obtain ⟨a1, rfl, _, _, w1⟩ := open_int Try.underlying2 (hval 1 2 v1 rfl rfl) h1
  clear hA0 hval0
  refine (walk s0 len0 cap0 V0 a1 W hc0 hr0 (bounds_i64 w1)).mono fun e W' ⟨he, bel⟩ => ?_
  subst he
  exact ⟨_, rfl, _, _, _, [], _, [], hW', trodAll_mk1 (shut_bool Try.underlying4 _), (trodAll_cons_mk (Below.trod laidOut (by kernel_rfl) (of_decide_eq_true (by kernel_rfl)) k0 bel lt0) (trodAll_cons_mk (Below.trod laidOut (by kernel_rfl) (of_decide_eq_true (by kernel_rfl)) k1 bel lt1) trodAll_mk0)), rfl, bel.frame _, fun h => by cases h⟩
theorem holds : Rows.histoNewsRow.holds Try.pinned (OpenSpec.ofChange Rows.histoNewsSpec) :=
  OpenClaim.holds_of_wide 3 Try.f3 rfl rfl rfl rfl rfl rfl rfl ⟨rfl, rfl, rfl, rfl, rfl⟩ rfl rfl rfl rfl rfl (by kernel_rfl) Try.func3 (by kernel_rfl)
    (of_decide_eq_true (by kernel_rfl)) (by unfold Func.isWrapper; first | (rw [if_pos (by decide +kernel)]; kernel_rfl) | (rw [if_neg (by decide +kernel)]; exact ⟨rfl, rfl⟩))
    (fun os started H enc _ => lifted os started H enc)
theorem proved : Rows.HistoNewsSaid := holds
end lawNews
end Go.Proofs.Ytenoalfjobghnaa
