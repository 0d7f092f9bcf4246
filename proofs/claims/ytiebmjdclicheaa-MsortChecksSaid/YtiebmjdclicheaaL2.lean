/- MsortChecks holds: whether records are in order, and how many inversions they have, is as the document says. -/
import Derived.Test.YtiebmjdclicheaaMX
import Derived.Test.YtiebmjdclicheaaOp
import Derived.Test.YtiebmjdclicheaaRows
import Derived.Deep.CutRange
import Derived.StillTailTactics
set_option linter.unusedVariables false
set_option linter.unusedSimpArgs false
namespace Go.Proofs.Ytiebmjdclicheaa
open Go.RowKit
namespace lawChecks
open Go.ChangeShapes Go.WideShapes Go.ChangeAt Go.RowKit Go.Joins
set_option maxRecDepth 100000 in
set_option maxHeartbeats 8000000 in
theorem walk (s0 : Option Addr) (len0 cap0 : Nat) (V0 : Nat → Nat → Int) (k : Int) (w : World) (hc0 : len0 ≤ cap0 ∧ cap0 ≤ maxLen) (hr0 : RowsI w s0 [.u64, .u64, .i64, .i64] len0 V0) (b1 : -9223372036854775808 ≤ k ∧ k ≤ 9223372036854775807) : Calls Try.prog 6 #[.slice s0 len0 cap0, .int .i64 k] w fun e w' => e = .returned (.bool true) ∧ Below w.heap.size w w' := by
  have H0 := hide (hr_arg hc0 hr0)
  by_cases h2 : 200 < len0
  · have d : decide ((200 : Int) < (len0 : Int)) = true := by simp; omega
    clear hc0 hr0 b1 h2
    go_enter Try.func6, Try.ntmps6
    go_wp2_with fail
    go_ret
    exact ⟨rfl, Below.refl _ _⟩
  · have d : decide ((200 : Int) < (len0 : Int)) = false := by simp; omega
    have WK := hide works_t
    generalize lR len0 V0 = l at *
    have C1 := hide (fun W (kW : Kp [] w W) => sorted_h (k := k) (H0.out.keep kW))
    have C2 := hide (fun W (kW : Kp [] w W) => rsorted_h (k := k) (H0.out.keep kW))
    have C3 := hide (fun W (kW : Kp [] w W) => inv_h (k := k) (H0.out.keep kW))
    have C4 := hide (fun W (kW : Kp [] w W) => rinv_h (k := k) (H0.out.keep kW))
    generalize chk l.length k = z at *
    generalize sorE k l = s at *
    generalize invA k l = N at *
    clear hc0 hr0 b1 h2
    go_enter Try.func6, Try.ntmps6
    go_wp2_with fail
    refine (C1.out _ (Kp.refl _ _)).mono ?_
    rintro e w1 ⟨rfl, k1⟩
    have K1 := hide k1
    clear k1
    go_wp2_with fail
    refine (C2.out _ K1.out).mono ?_
    rintro e w2 ⟨rfl, k2⟩
    have K2 := hide (K1.out.trans0 k2)
    clear k2
    go_wp2_with fail
    refine (C3.out _ K2.out).mono ?_
    rintro e w3 ⟨rfl, k3⟩
    have K3 := hide (K2.out.trans0 k3)
    clear k3
    go_wp2_with fail
    refine (C4.out _ K3.out).mono ?_
    rintro e w4 ⟨rfl, k4⟩
    have K4 := hide (K3.out.trans0 k4)
    clear k4
    go_wp2_with fail
    refine (WK.out _).mono ?_
    rintro e w5 ⟨rfl, k5⟩
    have K5 := hide (K4.out.trans0 k5)
    clear k5
    go_wp2_with fail
    go_ret
    exact ⟨rfl, K5.out.below (by simp) (Nat.le_refl _)⟩
theorem own : ownKnob Try.prog.godebug = none := by kernel_rfl
theorem laidOut : laidOutB Try.prog = true := by kernel_rfl
set_option maxRecDepth 100000 in
theorem lifted (os : Os) (started : os.Started) (H : Type) (enc : TypeId × Value → H) :
    ReturnsInHanded {} Try.checked os 6 .any (Rows.msortChecksSpec.pre6 enc Try.prog Try.f6 Rows.msortChecksRow.domain false) (Rows.msortChecksSpec.post enc Try.prog Try.f6 false true false false) := by
  refine returnsInHanded_of_change (C := Try.checked) own started (by kernel_rfl) Try.func6
    (ChangeSpec.witness6 (enc := enc) (C := Try.checked) false ⟨#[], #[.slice none 0 0, .int .i64 0], []⟩ 8 (by kernel_rfl) (by kernel_rfl) (by kernel_rfl) (by kernel_rfl)) ?_
  intro W base args ds gs before hval0 hW hcnd _
  have hval : ∀ (j : Nat) t v, Try.f6.params[j]? = some t → args[j]? = some v → Value.okWide Try.prog W .any base t v := hval0
  have hW' := hW
  obtain ⟨p, q, hA0, hV, rfl, hfz, hnd⟩ := hW
  have hA : DataW.TrodAll enc Try.prog W 0 (fun _ => true) true Try.f6.params.toList args.toList ds p := hA0
  rw [Try.params6] at hA hval
  obtain ⟨v0, vs0, d0, ds0, p0, q0, hargs, rfl, rfl, h0, r0⟩ := trodAll_cons hA
  obtain ⟨v1, vs1, d1, ds1, p1, q1, rfl, rfl, rfl, h1, r1⟩ := trodAll_cons r0
  obtain ⟨rfl, rfl, rfl⟩ := trodAll_nil r1
  obtain rfl : args = #[v0, v1] := by cases args; simp_all
  obtain ⟨rfl, rfl⟩ := trodVars_none hV
  have k0 := h0
  have lt0 : ∀ x ∈ p0, x.block < W.heap.size := by obtain ⟨m, hm⟩ := k0; exact DataW.trod_lt m _ _ _ hm
  have k1 := h1
  have lt1 : ∀ x ∈ p1, x.block < W.heap.size := by obtain ⟨m, hm⟩ := k1; exact DataW.trod_lt m _ _ _ hm
  obtain ⟨s0, len0, cap0, rfl⟩ := okWide_slice Try.underlying31 (hval 0 31 v0 rfl rfl)
  obtain ⟨V0, hc0, hr0⟩ := rows_in Try.underlying31 (flat_struct (ks := [.u64, .u64, .i64, .i64]) Try.underlying24 (by kernel_rfl) (by kernel_rfl)) (by decide) h0
  obtain ⟨a1, rfl, _, _, w1⟩ := open_int Try.underlying25 (hval 1 25 v1 rfl rfl) h1
  clear hA0 hval0
  refine (walk s0 len0 cap0 V0 a1 W hc0 hr0 (bounds_i64 w1)).mono fun e W' ⟨he, bel⟩ => ?_
  subst he
  exact ⟨_, rfl, _, _, _, [], _, [], hW', trodAll_mk1 (shut_bool Try.underlying4 _), (trodAll_cons_mk (Below.trod laidOut (by kernel_rfl) (of_decide_eq_true (by kernel_rfl)) k0 bel lt0) (trodAll_cons_mk (Below.trod laidOut (by kernel_rfl) (of_decide_eq_true (by kernel_rfl)) k1 bel lt1) trodAll_mk0)), rfl, bel.frame _, fun h => by cases h⟩
theorem holds : Rows.msortChecksRow.holds Try.pinned (OpenSpec.ofChange Rows.msortChecksSpec) :=
  OpenClaim.holds_of_wide 6 Try.f6 rfl rfl rfl rfl rfl rfl rfl ⟨rfl, rfl, rfl, rfl, rfl⟩ rfl rfl rfl rfl rfl (by kernel_rfl) Try.func6 (by kernel_rfl)
    (of_decide_eq_true (by kernel_rfl)) (by unfold Func.isWrapper; first | (rw [if_pos (by decide +kernel)]; kernel_rfl) | (rw [if_neg (by decide +kernel)]; exact ⟨rfl, rfl⟩))
    (fun os started H enc _ => lifted os started H enc)
theorem proved : Rows.MsortChecksSaid := holds
end lawChecks
end Go.Proofs.Ytiebmjdclicheaa
