/- MsortSorts holds: sorted records, and their indexes, are those of the document; the records stay unchanged. -/
import Derived.Test.YtiebmjdclicheaaMX
import Derived.Test.YtiebmjdclicheaaOp
import Derived.Test.YtiebmjdclicheaaRows
import Derived.Deep.CutRange
import Derived.StillTailTactics
set_option linter.unusedVariables false
set_option linter.unusedSimpArgs false
namespace Go.Proofs.Ytiebmjdclicheaa
open Go.RowKit
namespace lawSorts
open Go.ChangeShapes Go.WideShapes Go.ChangeAt Go.RowKit Go.Joins
set_option maxRecDepth 100000 in
set_option maxHeartbeats 8000000 in
theorem walk (s0 : Option Addr) (len0 cap0 : Nat) (V0 : Nat → Nat → Int) (k : Int) (w : World) (hc0 : len0 ≤ cap0 ∧ cap0 ≤ maxLen) (hr0 : RowsI w s0 [.u64, .u64, .i64, .i64] len0 V0) (b1 : -9223372036854775808 ≤ k ∧ k ≤ 9223372036854775807) : Calls Try.prog 4 #[.slice s0 len0 cap0, .int .i64 k] w fun e w' => e = .returned (.bool true) ∧ Below w.heap.size w w' := by
  have H0 := hide (hr_arg hc0 hr0)
  have LN := hide (lR_len len0 V0)
  by_cases h2 : 200 < len0
  · have d : decide ((200 : Int) < (len0 : Int)) = true := by simp; omega
    clear hc0 hr0 b1 h2
    go_enter Try.func4, Try.ntmps4
    go_wp2_with fail
    go_ret
    exact ⟨rfl, Below.refl _ _⟩
  · have d : decide ((200 : Int) < (len0 : Int)) = false := by simp; omega
    have HN := hide (show len0 ≤ 200 by omega)
    have WK := hide works_t
    generalize lR len0 V0 = l at *
    have CP := hide (copied_h H0.out (by have := HN.out; have := LN.out; omega))
    have CK := hide (show chk l.length k = chk len0 k by rw [LN.out])
    have PL := hide (show (permA k l).length ≤ 200 by
      by_cases h : chk l.length k = 0
      · rw [permA_len h, LN.out]; exact HN.out
      · rw [permA_no h]; simp)
    have SL := hide (show (sortA k l).length ≤ 200 by rw [sort_perm, List.length_map]; exact PL.out)
    clear hc0 hr0 b1 h2
    go_enter Try.func4, Try.ntmps4
    go_wp2_with fail
    refine CP.out.mono ?_
    rintro e w1 ⟨vi, rfl, hi, pi, k1⟩
    have K1 := hide k1
    have SI := hide (sort_h (k := k) hi)
    have HI := hide hi
    rw [CK.out] at SI
    clear hi pi k1 CP
    go_wp2_with fail
    refine SI.out.mono ?_
    rintro e w2 ⟨va, rfl, ha, pa, k2⟩
    have K2 := hide (K1.out.trans0 k2)
    have HI2 := hide (HI.out.keep k2)
    have HA := hide ha
    have RS := hide (rsort_h (k := k) (H0.out.keep K2.out))
    rw [CK.out] at RS
    clear ha pa k2 SI HI
    go_wp2_with fail
    refine RS.out.mono ?_
    rintro e w3 ⟨vb, rfl, hb, pb, k3⟩
    have K3 := hide (K2.out.trans0 k3)
    have HI3 := hide (HI2.out.keep k3)
    have HA3 := hide (HA.out.keep k3)
    have HB := hide hb
    have PE := hide (perm_h (k := k) HI3.out)
    rw [CK.out] at PE
    clear hb pb k3 RS HI2 HA
    go_wp2_with fail
    refine PE.out.mono ?_
    rintro e w4 ⟨vp, rfl, hp, k4⟩
    have K4 := hide (K3.out.trans0 k4)
    have HI4 := hide (HI3.out.keep k4)
    have HA4 := hide (HA3.out.keep k4)
    have HB4 := hide (HB.out.keep k4)
    have HPP := hide hp
    have RP := hide (rperm_h (k := k) (H0.out.keep K4.out))
    rw [CK.out] at RP
    clear hp k4 PE HI3 HA3 HB
    go_wp2_with fail
    refine RP.out.mono ?_
    rintro e w5 ⟨vq, rfl, hq, k5⟩
    have K5 := hide (K4.out.trans0 k5)
    have HI5 := hide (HI4.out.keep k5)
    have S1 := hide (same_h (HA4.out.keep k5) (HB4.out.keep k5) (by have := SL.out; omega))
    obtain ⟨pp, cp, rfl, rp⟩ := HPP.out.keep k5
    obtain ⟨pq, cq, rfl, rq⟩ := hq
    have RPP := hide rp
    have RQQ := hide rq
    have S2 := hide (fun W (kW : Kp [] w5 W) => same_h (HI5.out.keep kW) (H0.out.keep (K5.out.trans0 kW)) (by have := HN.out; have := LN.out; omega))
    clear rp rq k5 RP HI4 HA4 HB4 HPP CK
    obtain ⟨m, hm⟩ : ∃ m, m = (permA k l).length := ⟨_, rfl⟩
    have HM := hide hm
    have HML := hide (show m ≤ 200 by rw [hm]; exact PL.out)
    rw [← hm]
    generalize chk len0 k = z at *
    clear hm PL SL
    go_wp2_with fail
    refine S1.out.mono ?_
    rintro e w6 ⟨rfl, k6⟩
    have S3 := hide (S2.out _ k6)
    have K6 := hide k6
    clear k6 S1 S2
    go_wp2_with fail
    refine S3.out.mono ?_
    rintro e w7 ⟨rfl, k7⟩
    have K7 := hide (K6.out.trans0 k7)
    clear k7 S3
    go_wp2_with fail
    go_loopw [14] (fun i wr => ∃ i' : Nat, i = .int .i64 (i' : Int) ∧ Hid (Kp [] w5 wr)) (fun i _ => m - (intOf i).toNat)
    case atStart => exact ⟨0, rfl, K7.out⟩
    case round =>
      obtain ⟨I, rfl, hK⟩ := hrel
      by_cases hlt : I < m
      · have dk : decide (I < m) = true := by simpa using hlt
        have dk' : decide ((I : Int) < (m : Int)) = true := by simpa using hlt
        have bk : (I : Int) < (m : Int) := by omega
        have ww : IntKind.i64.wrap ((I : Int) + 1) = (I : Int) + 1 := by have := HML.out; rw [IntKind.wrap_i64]; omega
        have hg : (permA k l)[I]? = some ((permA k l).getD I 0) := by simp [List.getD, show I < (permA k l).length by rw [← HM.out]; exact hlt]
        rcases RPP.out.below hK.out with h0 | ⟨b1, o1, rfl, _, c1⟩
        · rw [h0] at hg; simp at hg
        rcases RQQ.out.below hK.out with h0 | ⟨b2, o2, rfl, _, c2⟩
        · rw [h0] at hg; simp at hg
        have e1 : wr.cell? ⟨b1, o1 + I, none⟩ = some (.int .i64 ((permA k l).getD I 0)) := c1 I _ hg
        have e2 : wr.cell? ⟨b2, o2 + I, none⟩ = some (.int .i64 ((permA k l).getD I 0)) := c2 I _ hg
        have HLT := hide hlt
        clear c1 c2 hg hlt
        generalize (permA k l).getD I 0 = x at *
        go_wp2_with fail
        go_quiet (fail)
        go_wp2_with fail
        go_roundw
        case rel => exact ⟨I + 1, by go_num, hK.out.trans0 (Kp.drewN [] _ _)⟩
        case measure => have := HLT.out; simp [intOf]; omega
      · have dk : decide (I < m) = false := by simp; omega
        have dk' : decide ((I : Int) < (m : Int)) = false := by simp; omega
        have WW := hide (WK.out wr)
        clear hlt
        go_wp2_with fail
        refine WW.out.mono ?_
        rintro e w8 ⟨rfl, k8⟩
        have K8 := hide ((K5.out.trans0 hK.out).trans0 k8)
        clear k8 WW
        go_wp2_with fail
        go_ret
        exact ⟨rfl, K8.out.below (by simp) (Nat.le_refl _)⟩
theorem own : ownKnob Try.prog.godebug = none := by kernel_rfl
theorem laidOut : laidOutB Try.prog = true := by kernel_rfl
set_option maxRecDepth 100000 in
theorem lifted (os : Os) (started : os.Started) (H : Type) (enc : TypeId × Value → H) :
    ReturnsInHanded {} Try.checked os 4 .any (Rows.msortSortsSpec.pre6 enc Try.prog Try.f4 Rows.msortSortsRow.domain false) (Rows.msortSortsSpec.post enc Try.prog Try.f4 false true false false) := by
  refine returnsInHanded_of_change (C := Try.checked) own started (by kernel_rfl) Try.func4
    (ChangeSpec.witness6 (enc := enc) (C := Try.checked) false ⟨#[], #[.slice none 0 0, .int .i64 0], []⟩ 8 (by kernel_rfl) (by kernel_rfl) (by kernel_rfl) (by kernel_rfl)) ?_
  intro W base args ds gs before hval0 hW hcnd _
  have hval : ∀ (j : Nat) t v, Try.f4.params[j]? = some t → args[j]? = some v → Value.okWide Try.prog W .any base t v := hval0
  have hW' := hW
  obtain ⟨p, q, hA0, hV, rfl, hfz, hnd⟩ := hW
  have hA : DataW.TrodAll enc Try.prog W 0 (fun _ => true) true Try.f4.params.toList args.toList ds p := hA0
  rw [Try.params4] at hA hval
  obtain ⟨v0, vs0, d0, ds0, p0, q0, hargs, rfl, rfl, h0, r0⟩ := trodAll_cons hA
  obtain ⟨v1, vs1, d1, ds1, p1, q1, rfl, rfl, rfl, h1, r1⟩ := trodAll_cons r0
  obtain ⟨rfl, rfl, rfl⟩ := trodAll_nil r1
  obtain rfl : args = #[v0, v1] := by cases args; simp_all
  obtain ⟨rfl, rfl⟩ := trodVars_none hV
  have k0 := h0
  have lt0 : ∀ x ∈ p0, x.block < W.heap.size := by obtain ⟨m, hm⟩ := k0; exact DataW.trod_lt m _ _ _ hm
  have k1 := h1
  have lt1 : ∀ x ∈ p1, x.block < W.heap.size := by obtain ⟨m, hm⟩ := k1; exact DataW.trod_lt m _ _ _ hm
  obtain ⟨s0, len0, cap0, rfl⟩ := okWide_slice Try.underlying31 (hval 0 31 v0 rfl rfl)
  obtain ⟨V0, hc0, hr0⟩ := rows_in Try.underlying31 (flat_struct (ks := [.u64, .u64, .i64, .i64]) Try.underlying24 (by kernel_rfl) (by kernel_rfl)) (by decide) h0
  obtain ⟨a1, rfl, _, _, w1⟩ := open_int Try.underlying25 (hval 1 25 v1 rfl rfl) h1
  clear hA0 hval0
  refine (walk s0 len0 cap0 V0 a1 W hc0 hr0 (bounds_i64 w1)).mono fun e W' ⟨he, bel⟩ => ?_
  subst he
  exact ⟨_, rfl, _, _, _, [], _, [], hW', trodAll_mk1 (shut_bool Try.underlying4 _), (trodAll_cons_mk (Below.trod laidOut (by kernel_rfl) (of_decide_eq_true (by kernel_rfl)) k0 bel lt0) (trodAll_cons_mk (Below.trod laidOut (by kernel_rfl) (of_decide_eq_true (by kernel_rfl)) k1 bel lt1) trodAll_mk0)), rfl, bel.frame _, fun h => by cases h⟩
theorem holds : Rows.msortSortsRow.holds Try.pinned (OpenSpec.ofChange Rows.msortSortsSpec) :=
  OpenClaim.holds_of_wide 4 Try.f4 rfl rfl rfl rfl rfl rfl rfl ⟨rfl, rfl, rfl, rfl, rfl⟩ rfl rfl rfl rfl rfl (by kernel_rfl) Try.func4 (by kernel_rfl)
    (of_decide_eq_true (by kernel_rfl)) (by unfold Func.isWrapper; first | (rw [if_pos (by decide +kernel)]; kernel_rfl) | (rw [if_neg (by decide +kernel)]; exact ⟨rfl, rfl⟩))
    (fun os started H enc _ => lifted os started H enc)
theorem proved : Rows.MsortSortsSaid := holds
end lawSorts
end Go.Proofs.Ytiebmjdclicheaa
