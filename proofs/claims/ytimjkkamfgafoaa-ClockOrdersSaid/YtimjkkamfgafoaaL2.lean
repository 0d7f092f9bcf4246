/- ClockOrders holds: the greater one of two times expires later, or its expiry does not fit. -/
import Derived.Test.YtimjkkamfgafoaaC
import Derived.Test.YtimjkkamfgafoaaOp
import Derived.Test.YtimjkkamfgafoaaRows
import Derived.Deep.CutRange
set_option linter.unusedVariables false
set_option linter.unusedSimpArgs false
namespace Go.Proofs.Ytimjkkamfgafoaa
open Go.RowKit
namespace lawOrders
open Go.ChangeShapes Go.WideShapes Go.ChangeAt Go.RowKit Go.Joins
set_option maxRecDepth 100000 in
set_option maxHeartbeats 8000000 in
theorem walk (a0 a1 a2 : Int) (w : World) (b0 : I64 a0) (b1 : I64 a1) (b2 : I64 a2) : Calls Try.prog 8 #[.int .i64 a0, .int .i64 a1, .int .i64 a2] w fun e w' => e = .returned (.bool true) ∧ Below w.heap.size w w' := by
  have P := fun W => hide (span_t a0 W b0)
  obtain ⟨s1, s2⟩ := sp_bd b0
  have N0 := fun W => hide (new_t (sp a0) W s1 s2)
  have S := hide (And.intro s1 s2)
  clear s1 s2 b0
  generalize sp a0 = n at *
  rcases (show a2 < a1 ∨ a1 ≤ a2 by omega) with h | h
  · have d0 : decide (a2 < a1) = true := by simp [h]
    obtain ⟨p, rfl⟩ : ∃ p, p = a2 := ⟨_, rfl⟩
    obtain ⟨q, rfl⟩ : ∃ q, q = a1 := ⟨_, rfl⟩
    have H := hide (show p ≤ q by omega)
    have BP := hide b2
    have BQ := hide b1
    clear h b1 b2
    go_enter Try.func8, Try.ntmps8
    go_wp2_with fail
    clear d0
    refine (P _).out.mono ?_
    rintro e w' ⟨rfl, rfl⟩
    go_wp2_with fail
    refine (N0 _).out.mono ?_
    rintro e w1 ⟨rfl, C, B⟩
    have HB := hide B
    have E1 := hide (expiry_t C p BP.out)
    have E2 := hide (expiry_t C q BQ.out)
    clear C B N0 P
    by_cases hp : I64 (p + n)
    · rw [gv_ok hp, ge_ok hp] at E1
      by_cases hq : I64 (q + n)
      · rw [gv_ok hq, ge_ok hq] at E2
        rcases (show p < q ∨ p = q by have := H.out; omega) with hl | hl
        · have d1 : decide (p < q) = true := by simp [hl]
          have d2 : decide (p + n < q + n) = true := by simp [hl]
          have d3 : (p == q) = false := by simp; omega
          have d4 : (p + n == q + n) = false := by simp; omega
          have d5 : decide (p < p + n) = true := by have := S.out; simp; omega
          clear hp hq hl
          generalize p + n = x at *
          generalize q + n = y at *
          go_wp2_with fail
          refine E1.out.mono ?_
          rintro e w' ⟨rfl, rfl⟩
          go_wp2_with fail
          refine E2.out.mono ?_
          rintro e w' ⟨rfl, rfl⟩
          go_wp2_with (go_at_call 14; refine (works _).mono ?_; rintro e w4 ⟨rfl, bw4⟩)
          go_ret
          exact ⟨rfl, HB.out.trans (bw4.mono HB.out.size)⟩
        · have d1 : decide (p < q) = false := by simp; omega
          have d2 : decide (p + n < q + n) = false := by simp; omega
          have d3 : (p == q) = true := by simp [hl]
          have d4 : (p + n == q + n) = true := by simp [hl]
          have d5 : decide (p < p + n) = true := by have := S.out; simp; omega
          clear hp hq hl
          generalize p + n = x at *
          generalize q + n = y at *
          go_wp2_with fail
          refine E1.out.mono ?_
          rintro e w' ⟨rfl, rfl⟩
          go_wp2_with fail
          refine E2.out.mono ?_
          rintro e w' ⟨rfl, rfl⟩
          go_wp2_with (go_at_call 14; refine (works _).mono ?_; rintro e w4 ⟨rfl, bw4⟩)
          go_ret
          exact ⟨rfl, HB.out.trans (bw4.mono HB.out.size)⟩
      · rw [gv_no hq, ge_no hq] at E2
        clear hp hq
        generalize p + n = x at *
        go_wp2_with fail
        refine E1.out.mono ?_
        rintro e w' ⟨rfl, rfl⟩
        go_wp2_with fail
        refine E2.out.mono ?_
        rintro e w' ⟨rfl, rfl⟩
        go_wp2_with (go_at_call 14; refine (works _).mono ?_; rintro e w4 ⟨rfl, bw4⟩)
        go_ret
        exact ⟨rfl, HB.out.trans (bw4.mono HB.out.size)⟩
    · have hq : ¬ I64 (q + n) := by
        have := H.out; have := S.out; have hx := BP.out; have hy := BQ.out
        unfold I64 at *; omega
      rw [gv_no hq, ge_no hq] at E2
      rw [gv_no hp, ge_no hp] at E1
      clear hp hq
      go_wp2_with fail
      refine E1.out.mono ?_
      rintro e w' ⟨rfl, rfl⟩
      go_wp2_with fail
      refine E2.out.mono ?_
      rintro e w' ⟨rfl, rfl⟩
      go_wp2_with (go_at_call 14; refine (works _).mono ?_; rintro e w4 ⟨rfl, bw4⟩)
      go_ret
      exact ⟨rfl, HB.out.trans (bw4.mono HB.out.size)⟩
  · have d0 : decide (a2 < a1) = false := by simp; omega
    obtain ⟨p, rfl⟩ : ∃ p, p = a1 := ⟨_, rfl⟩
    obtain ⟨q, rfl⟩ : ∃ q, q = a2 := ⟨_, rfl⟩
    have H := hide (show p ≤ q by omega)
    have BP := hide b1
    have BQ := hide b2
    clear h b1 b2
    go_enter Try.func8, Try.ntmps8
    go_wp2_with fail
    clear d0
    refine (P _).out.mono ?_
    rintro e w' ⟨rfl, rfl⟩
    go_wp2_with fail
    refine (N0 _).out.mono ?_
    rintro e w1 ⟨rfl, C, B⟩
    have HB := hide B
    have E1 := hide (expiry_t C p BP.out)
    have E2 := hide (expiry_t C q BQ.out)
    clear C B N0 P
    by_cases hp : I64 (p + n)
    · rw [gv_ok hp, ge_ok hp] at E1
      by_cases hq : I64 (q + n)
      · rw [gv_ok hq, ge_ok hq] at E2
        rcases (show p < q ∨ p = q by have := H.out; omega) with hl | hl
        · have d1 : decide (p < q) = true := by simp [hl]
          have d2 : decide (p + n < q + n) = true := by simp [hl]
          have d3 : (p == q) = false := by simp; omega
          have d4 : (p + n == q + n) = false := by simp; omega
          have d5 : decide (p < p + n) = true := by have := S.out; simp; omega
          clear hp hq hl
          generalize p + n = x at *
          generalize q + n = y at *
          go_wp2_with fail
          refine E1.out.mono ?_
          rintro e w' ⟨rfl, rfl⟩
          go_wp2_with fail
          refine E2.out.mono ?_
          rintro e w' ⟨rfl, rfl⟩
          go_wp2_with (go_at_call 14; refine (works _).mono ?_; rintro e w4 ⟨rfl, bw4⟩)
          go_ret
          exact ⟨rfl, HB.out.trans (bw4.mono HB.out.size)⟩
        · have d1 : decide (p < q) = false := by simp; omega
          have d2 : decide (p + n < q + n) = false := by simp; omega
          have d3 : (p == q) = true := by simp [hl]
          have d4 : (p + n == q + n) = true := by simp [hl]
          have d5 : decide (p < p + n) = true := by have := S.out; simp; omega
          clear hp hq hl
          generalize p + n = x at *
          generalize q + n = y at *
          go_wp2_with fail
          refine E1.out.mono ?_
          rintro e w' ⟨rfl, rfl⟩
          go_wp2_with fail
          refine E2.out.mono ?_
          rintro e w' ⟨rfl, rfl⟩
          go_wp2_with (go_at_call 14; refine (works _).mono ?_; rintro e w4 ⟨rfl, bw4⟩)
          go_ret
          exact ⟨rfl, HB.out.trans (bw4.mono HB.out.size)⟩
      · rw [gv_no hq, ge_no hq] at E2
        clear hp hq
        generalize p + n = x at *
        go_wp2_with fail
        refine E1.out.mono ?_
        rintro e w' ⟨rfl, rfl⟩
        go_wp2_with fail
        refine E2.out.mono ?_
        rintro e w' ⟨rfl, rfl⟩
        go_wp2_with (go_at_call 14; refine (works _).mono ?_; rintro e w4 ⟨rfl, bw4⟩)
        go_ret
        exact ⟨rfl, HB.out.trans (bw4.mono HB.out.size)⟩
    · have hq : ¬ I64 (q + n) := by
        have := H.out; have := S.out; have hx := BP.out; have hy := BQ.out
        unfold I64 at *; omega
      rw [gv_no hq, ge_no hq] at E2
      rw [gv_no hp, ge_no hp] at E1
      clear hp hq
      go_wp2_with fail
      refine E1.out.mono ?_
      rintro e w' ⟨rfl, rfl⟩
      go_wp2_with fail
      refine E2.out.mono ?_
      rintro e w' ⟨rfl, rfl⟩
      go_wp2_with (go_at_call 14; refine (works _).mono ?_; rintro e w4 ⟨rfl, bw4⟩)
      go_ret
      exact ⟨rfl, HB.out.trans (bw4.mono HB.out.size)⟩
theorem own : ownKnob Try.prog.godebug = none := by kernel_rfl
theorem laidOut : laidOutB Try.prog = true := by kernel_rfl
set_option maxRecDepth 100000 in
theorem lifted (os : Os) (started : os.Started) (H : Type) (enc : TypeId × Value → H) :
    ReturnsInHanded {} Try.checked os 8 .any (Rows.clockOrdersSpec.pre6 enc Try.prog Try.f8 Rows.clockOrdersRow.domain false) (Rows.clockOrdersSpec.post enc Try.prog Try.f8 false true false false) := by
  refine returnsInHanded_of_change (C := Try.checked) own started (by kernel_rfl) Try.func8
    (ChangeSpec.witness6 (enc := enc) (C := Try.checked) false ⟨#[], #[.int .i64 0, .int .i64 0, .int .i64 0], []⟩ 8 (by kernel_rfl) (by kernel_rfl) (by kernel_rfl) (by kernel_rfl)) ?_
  intro W base args ds gs before hval0 hW hcnd _
  have hval : ∀ (j : Nat) t v, Try.f8.params[j]? = some t → args[j]? = some v → Value.okWide Try.prog W .any base t v := hval0
  have hW' := hW
  obtain ⟨p, q, hA0, hV, rfl, hfz, hnd⟩ := hW
  have hA : DataW.TrodAll enc Try.prog W 0 (fun _ => true) true Try.f8.params.toList args.toList ds p := hA0
  rw [Try.params8] at hA hval
  obtain ⟨v0, vs0, d0, ds0, p0, q0, hargs, rfl, rfl, h0, r0⟩ := trodAll_cons hA
  obtain ⟨v1, vs1, d1, ds1, p1, q1, rfl, rfl, rfl, h1, r1⟩ := trodAll_cons r0
  obtain ⟨v2, vs2, d2, ds2, p2, q2, rfl, rfl, rfl, h2, r2⟩ := trodAll_cons r1
  obtain ⟨rfl, rfl, rfl⟩ := trodAll_nil r2
  obtain rfl : args = #[v0, v1, v2] := by cases args; simp_all
  obtain ⟨rfl, rfl⟩ := trodVars_none hV
  have k0 := h0
  have lt0 : ∀ x ∈ p0, x.block < W.heap.size := by obtain ⟨m, hm⟩ := k0; exact DataW.trod_lt m _ _ _ hm
  have k1 := h1
  have lt1 : ∀ x ∈ p1, x.block < W.heap.size := by obtain ⟨m, hm⟩ := k1; exact DataW.trod_lt m _ _ _ hm
  have k2 := h2
  have lt2 : ∀ x ∈ p2, x.block < W.heap.size := by obtain ⟨m, hm⟩ := k2; exact DataW.trod_lt m _ _ _ hm
  obtain ⟨a0, rfl, _, _, w0⟩ := open_int Try.underlying2 (hval 0 2 v0 rfl rfl) h0
  obtain ⟨a1, rfl, _, _, w1⟩ := open_int Try.underlying2 (hval 1 2 v1 rfl rfl) h1
  obtain ⟨a2, rfl, _, _, w2⟩ := open_int Try.underlying2 (hval 2 2 v2 rfl rfl) h2
  clear hA0 hval0
  refine (walk a0 a1 a2 W (bounds_i64 w0) (bounds_i64 w1) (bounds_i64 w2)).mono fun e W' ⟨he, bel⟩ => ?_
  subst he
  exact ⟨_, rfl, _, _, _, [], _, [], hW', trodAll_mk1 (shut_bool Try.underlying4 _), (trodAll_cons_mk (Below.trod laidOut (by kernel_rfl) (of_decide_eq_true (by kernel_rfl)) k0 bel lt0) (trodAll_cons_mk (Below.trod laidOut (by kernel_rfl) (of_decide_eq_true (by kernel_rfl)) k1 bel lt1) (trodAll_cons_mk (Below.trod laidOut (by kernel_rfl) (of_decide_eq_true (by kernel_rfl)) k2 bel lt2) trodAll_mk0))), rfl, bel.frame _, fun h => by cases h⟩
theorem holds : Rows.clockOrdersRow.holds Try.pinned (OpenSpec.ofChange Rows.clockOrdersSpec) :=
  OpenClaim.holds_of_wide 8 Try.f8 rfl rfl rfl rfl rfl rfl rfl ⟨rfl, rfl, rfl, rfl, rfl⟩ rfl rfl rfl rfl rfl (by kernel_rfl) Try.func8 (by kernel_rfl)
    (of_decide_eq_true (by kernel_rfl)) (by unfold Func.isWrapper; first | (rw [if_pos (by decide +kernel)]; kernel_rfl) | (rw [if_neg (by decide +kernel)]; exact ⟨rfl, rfl⟩))
    (fun os started H enc _ => lifted os started H enc)
theorem proved : Rows.ClockOrdersSaid := holds
end lawOrders
end Go.Proofs.Ytimjkkamfgafoaa
