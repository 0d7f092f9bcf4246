/- ClockLives holds: an edge is live just if its time is not after that of the clock, and it expires after that; for every window and time. -/
import Derived.Test.YtimjkkamfgafoaaC
import Derived.Test.YtimjkkamfgafoaaOp
import Derived.Test.YtimjkkamfgafoaaRows
import Derived.Deep.CutRange
set_option linter.unusedVariables false
set_option linter.unusedSimpArgs false
namespace Go.Proofs.Ytimjkkamfgafoaa
open Go.RowKit
namespace lawLives
open Go.ChangeShapes Go.WideShapes Go.ChangeAt Go.RowKit Go.Joins
set_option maxRecDepth 100000 in
set_option maxHeartbeats 4000000 in
theorem walk (a0 a1 a2 : Int) (w : World) (b0 : I64 a0) (b1 : I64 a1) (b2 : I64 a2) : Calls Try.prog 6 #[.int .i64 a0, .int .i64 a1, .int .i64 a2] w fun e w' => e = .returned (.bool true) ∧ Below w.heap.size w w' := by
  have P := hide (span_t a0 w b0)
  obtain ⟨s1, s2⟩ := sp_bd b0
  have N0 := hide (new_t (sp a0) w s1 s2)
  have S := hide (And.intro s1 s2)
  have B2 := hide b2
  have B1 := hide b1
  clear s1 s2 b2 b1 b0
  generalize sp a0 = n at *
  go_enter Try.func6, Try.ntmps6
  go_wp2_with fail
  refine P.out.mono ?_
  rintro e w' ⟨rfl, rfl⟩
  go_wp2_with fail
  refine N0.out.mono ?_
  rintro e w1 ⟨rfl, C, B⟩
  have HB := hide B
  have hz := C.lt
  have A := hide (advance_t C a1 B1.out)
  clear C B N0
  go_wp2_with fail
  refine A.out.mono ?_
  rintro e w2 ⟨rfl, C, K⟩
  have HB2 := hide (HB.out.trans (K.below (by simp) (Nat.le_of_lt hz)))
  have E := hide (expiry_t C a2 B2.out)
  have L := hide (live_t C a2 B2.out)
  have W := hide (now_t C)
  have F := hide (And.intro C.t0 C.tn)
  clear C K A HB hz
  generalize nx n 0 a1 = t at *
  by_cases hf : I64 (a2 + n)
  · rw [gv_ok hf, ge_ok hf] at E
    have HF := hide hf
    clear hf
    by_cases hl : a2 ≤ t
    · by_cases hm : t < a2 + n
      · have d1 : decide (a2 ≤ t) = true := by simp [hl]
        have d2 : decide (t < a2 + n) = true := by simp [hm]
        rw [show lv n t a2 = true by unfold lv; simp [hl, hm]] at L
        clear hl hm
        generalize a2 + n = y at *
        go_wp2_with fail
        refine E.out.mono ?_
        rintro e w' ⟨rfl, rfl⟩
        go_wp2_with (first | (go_at_call 26; refine L.out.mono ?_; rintro e w' ⟨rfl, rfl⟩) | (go_at_call 23; refine W.out.mono ?_; rintro e w' ⟨rfl, rfl⟩) | (go_at_call 14; refine (works _).mono ?_; rintro e w4 ⟨rfl, bw4⟩))
        go_ret
        exact ⟨rfl, HB2.out.trans (bw4.mono HB2.out.size)⟩
      · have d1 : decide (a2 ≤ t) = true := by simp [hl]
        have d2 : decide (t < a2 + n) = false := by simp; omega
        rw [show lv n t a2 = false by unfold lv; simp [hl]; omega] at L
        clear hl hm
        generalize a2 + n = y at *
        go_wp2_with fail
        refine E.out.mono ?_
        rintro e w' ⟨rfl, rfl⟩
        go_wp2_with (first | (go_at_call 26; refine L.out.mono ?_; rintro e w' ⟨rfl, rfl⟩) | (go_at_call 23; refine W.out.mono ?_; rintro e w' ⟨rfl, rfl⟩) | (go_at_call 14; refine (works _).mono ?_; rintro e w4 ⟨rfl, bw4⟩))
        go_ret
        exact ⟨rfl, HB2.out.trans (bw4.mono HB2.out.size)⟩
    · have d1 : decide (a2 ≤ t) = false := by simp; omega
      rw [show lv n t a2 = false by unfold lv; simp [hl]] at L
      clear hl
      generalize a2 + n = y at *
      go_wp2_with fail
      refine E.out.mono ?_
      rintro e w' ⟨rfl, rfl⟩
      go_wp2_with (first | (go_at_call 26; refine L.out.mono ?_; rintro e w' ⟨rfl, rfl⟩) | (go_at_call 23; refine W.out.mono ?_; rintro e w' ⟨rfl, rfl⟩) | (go_at_call 14; refine (works _).mono ?_; rintro e w4 ⟨rfl, bw4⟩))
      go_ret
      exact ⟨rfl, HB2.out.trans (bw4.mono HB2.out.size)⟩
  · rw [gv_no hf, ge_no hf] at E
    rw [show lv n t a2 = false by have := F.out; have := B2.out; have := S.out; unfold lv; unfold I64 at *; simp; omega] at L
    clear hf
    by_cases hl : a2 ≤ t
    · have d1 : decide (a2 ≤ t) = true := by simp [hl]
      clear hl
      go_wp2_with fail
      refine E.out.mono ?_
      rintro e w' ⟨rfl, rfl⟩
      go_wp2_with (first | (go_at_call 26; refine L.out.mono ?_; rintro e w' ⟨rfl, rfl⟩) | (go_at_call 23; refine W.out.mono ?_; rintro e w' ⟨rfl, rfl⟩) | (go_at_call 14; refine (works _).mono ?_; rintro e w4 ⟨rfl, bw4⟩))
      go_ret
      exact ⟨rfl, HB2.out.trans (bw4.mono HB2.out.size)⟩
    · have d1 : decide (a2 ≤ t) = false := by simp; omega
      clear hl
      go_wp2_with fail
      refine E.out.mono ?_
      rintro e w' ⟨rfl, rfl⟩
      go_wp2_with (first | (go_at_call 26; refine L.out.mono ?_; rintro e w' ⟨rfl, rfl⟩) | (go_at_call 23; refine W.out.mono ?_; rintro e w' ⟨rfl, rfl⟩) | (go_at_call 14; refine (works _).mono ?_; rintro e w4 ⟨rfl, bw4⟩))
      go_ret
      exact ⟨rfl, HB2.out.trans (bw4.mono HB2.out.size)⟩
theorem own : ownKnob Try.prog.godebug = none := by kernel_rfl
theorem laidOut : laidOutB Try.prog = true := by kernel_rfl
set_option maxRecDepth 100000 in
theorem lifted (os : Os) (started : os.Started) (H : Type) (enc : TypeId × Value → H) :
    ReturnsInHanded {} Try.checked os 6 .any (Rows.clockLivesSpec.pre6 enc Try.prog Try.f6 Rows.clockLivesRow.domain false) (Rows.clockLivesSpec.post enc Try.prog Try.f6 false true false false) := by
  refine returnsInHanded_of_change (C := Try.checked) own started (by kernel_rfl) Try.func6
    (ChangeSpec.witness6 (enc := enc) (C := Try.checked) false ⟨#[], #[.int .i64 0, .int .i64 0, .int .i64 0], []⟩ 8 (by kernel_rfl) (by kernel_rfl) (by kernel_rfl) (by kernel_rfl)) ?_
  intro W base args ds gs before hval0 hW hcnd _
  have hval : ∀ (j : Nat) t v, Try.f6.params[j]? = some t → args[j]? = some v → Value.okWide Try.prog W .any base t v := hval0
  have hW' := hW
  obtain ⟨p, q, hA0, hV, rfl, hfz, hnd⟩ := hW
  have hA : DataW.TrodAll enc Try.prog W 0 (fun _ => true) true Try.f6.params.toList args.toList ds p := hA0
  rw [Try.params6] at hA hval
  obtain ⟨v0, vs0, d0, ds0, p0, q0, hargs, rfl, rfl, h0, r0⟩ := trodAll_cons hA
  obtain ⟨v1, vs1, d1, ds1, p1, q1, rfl, rfl, rfl, h1, r1⟩ := trodAll_cons r0
  obtain ⟨v2, vs2, d2, ds2, p2, q2, rfl, rfl, rfl, h2, r2⟩ := trodAll_cons r1
  obtain ⟨rfl, rfl, rfl⟩ := trodAll_nil r2
  obtain rfl : args = #[v0, v1, v2] := by cases args; simp_all
  obtain ⟨rfl, rfl⟩ := trodVars_none hV
  have k0 := h0
  have lt0 : ∀ x ∈ p0, x.block < W.heap.size := by obtain ⟨m, hm⟩ := k0; exact DataW.trod_lt m _ _ _ hm
  have k1 := h1
  have lt1 : ∀ x ∈ p1, x.block < W.heap.size := by obtain ⟨m, hm⟩ := k1; exact DataW.trod_lt m _ _ _ hm
  have k2 := h2
  have lt2 : ∀ x ∈ p2, x.block < W.heap.size := by obtain ⟨m, hm⟩ := k2; exact DataW.trod_lt m _ _ _ hm
  obtain ⟨a0, rfl, _, _, w0⟩ := open_int Try.underlying2 (hval 0 2 v0 rfl rfl) h0
  obtain ⟨a1, rfl, _, _, w1⟩ := open_int Try.underlying2 (hval 1 2 v1 rfl rfl) h1
  obtain ⟨a2, rfl, _, _, w2⟩ := open_int Try.underlying2 (hval 2 2 v2 rfl rfl) h2
  clear hA0 hval0
  refine (walk a0 a1 a2 W (bounds_i64 w0) (bounds_i64 w1) (bounds_i64 w2)).mono fun e W' ⟨he, bel⟩ => ?_
  subst he
  exact ⟨_, rfl, _, _, _, [], _, [], hW', trodAll_mk1 (shut_bool Try.underlying4 _), (trodAll_cons_mk (Below.trod laidOut (by kernel_rfl) (of_decide_eq_true (by kernel_rfl)) k0 bel lt0) (trodAll_cons_mk (Below.trod laidOut (by kernel_rfl) (of_decide_eq_true (by kernel_rfl)) k1 bel lt1) (trodAll_cons_mk (Below.trod laidOut (by kernel_rfl) (of_decide_eq_true (by kernel_rfl)) k2 bel lt2) trodAll_mk0))), rfl, bel.frame _, fun h => by cases h⟩
theorem holds : Rows.clockLivesRow.holds Try.pinned (OpenSpec.ofChange Rows.clockLivesSpec) :=
  OpenClaim.holds_of_wide 6 Try.f6 rfl rfl rfl rfl rfl rfl rfl ⟨rfl, rfl, rfl, rfl, rfl⟩ rfl rfl rfl rfl rfl (by kernel_rfl) Try.func6 (by kernel_rfl)
    (of_decide_eq_true (by kernel_rfl)) (by unfold Func.isWrapper; first | (rw [if_pos (by decide +kernel)]; kernel_rfl) | (rw [if_neg (by decide +kernel)]; exact ⟨rfl, rfl⟩))
    (fun os started H enc _ => lifted os started H enc)
theorem proved : Rows.ClockLivesSaid := holds
end lawLives
end Go.Proofs.Ytimjkkamfgafoaa
