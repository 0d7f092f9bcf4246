/- CheckedKnown: the law answers true: the examples of the chapter and the limits. No condition. -/
import Derived.Test.YtomgdleoegaooaaFr
set_option linter.unusedVariables false
set_option linter.unusedSimpArgs false
namespace Go.Proofs.Ytomgdleoegaooaa.lawKnown
open Go.ChangeShapes Go.WideShapes Go.ChangeAt Go.RowKit

theorem k1 (w : World) : Calls Try.prog 13 #[.int .i64 9223372036854775807, .int .i64 1] w fun e w' => e = .returned (.tuple #[.int .i64 0, .int .i64 7]) ∧ w = w' := add_no _ _ w (by unfold I64; omega) (by unfold I64; omega) (by unfold I64; omega)
theorem k2 (w : World) : Calls Try.prog 13 #[.int .i64 9223372036854775807, .int .i64 (-9223372036854775808)] w fun e w' => e = .returned (.tuple #[.int .i64 (-1), .int .i64 0]) ∧ w = w' := add_ok 9223372036854775807 (-9223372036854775808) w (by unfold I64; omega) (by unfold I64; omega) (by unfold I64; omega)
theorem k3 (w : World) : Calls Try.prog 15 #[.int .i64 (-1), .int .i64 (-9223372036854775808)] w fun e w' => e = .returned (.tuple #[.int .i64 9223372036854775807, .int .i64 0]) ∧ w = w' := sub_ok (-1) (-9223372036854775808) w (by unfold I64; omega) (by unfold I64; omega) (by unfold I64; omega)
theorem k4 (w : World) : Calls Try.prog 15 #[.int .i64 0, .int .i64 (-9223372036854775808)] w fun e w' => e = .returned (.tuple #[.int .i64 0, .int .i64 7]) ∧ w = w' := sub_no _ _ w (by unfold I64; omega) (by unfold I64; omega) (by unfold I64; omega)
theorem k5 (w : World) : Calls Try.prog 17 #[.int .i64 (-9223372036854775808), .int .i64 (-1)] w fun e w' => e = .returned (.tuple #[.int .i64 0, .int .i64 7]) ∧ Below w.heap.size w w' := mul_no _ _ (by unfold I64; omega) (by unfold I64; omega) (by unfold I64; omega) w
theorem k6 (w : World) : Calls Try.prog 17 #[.int .i64 (-9223372036854775808), .int .i64 1] w fun e w' => e = .returned (.tuple #[.int .i64 (-9223372036854775808), .int .i64 0]) ∧ Below w.heap.size w w' := mul_ok (-9223372036854775808) 1 (by unfold I64; omega) (by unfold I64; omega) (by unfold I64; omega) w
theorem k7 (w : World) : Calls Try.prog 20 #[.slice none 0 0] w fun e w' => e = .returned (.tuple #[.int .i64 0, .int .i64 0]) ∧ Below w.heap.size w w' := sum_ok none [] 0 w (.inl rfl) (fun x hx => by cases hx) (by simp) (by simp [lsum, I64])
theorem k8 (w : World) : Calls Try.prog 22 #[.int .i64 (-7), .int .i64 1, .int .i64 2] w fun e w' => e = .returned (.tuple #[.int .i64 (-4), .int .i64 0]) ∧ Below w.heap.size w w' := muldiv_ok (-7) 1 2 (by unfold I64; omega) (by unfold I64; omega) (by unfold I64; omega) (by omega) (by unfold I64; omega) w
theorem k9 (w : World) : Calls Try.prog 22 #[.int .i64 1, .int .i64 1, .int .i64 0] w fun e w' => e = .returned (.tuple #[.int .i64 0, .int .i64 2]) ∧ Below w.heap.size w w' := muldiv_arg 1 1 0 (by omega) w
theorem k10 (w : World) : Calls Try.prog 22 #[.int .i64 (-9223372036854775808), .int .i64 (-9223372036854775808), .int .i64 9223372036854775807] w fun e w' => e = .returned (.tuple #[.int .i64 0, .int .i64 7]) ∧ Below w.heap.size w w' := muldiv_no _ _ _ (by unfold I64; omega) (by unfold I64; omega) (by unfold I64; omega) (by omega) (by unfold I64; omega) w
theorem k11 (w : World) : Calls Try.prog 22 #[.int .i64 (-9223372036854775808), .int .i64 1, .int .i64 1] w fun e w' => e = .returned (.tuple #[.int .i64 (-9223372036854775808), .int .i64 0]) ∧ Below w.heap.size w w' := muldiv_ok (-9223372036854775808) 1 1 (by unfold I64; omega) (by unfold I64; omega) (by unfold I64; omega) (by omega) (by unfold I64; omega) w
theorem k12 (w : World) : Calls Try.prog 24 #[.int .i64 0, .int .i64 (-5)] w fun e w' => e = .returned (.tuple #[.agg #[.int .i64 0, .int .i64 1], .int .i64 0]) ∧ Below w.heap.size w w' := by
  have e := (show rN 0 (-5) = 0 ∧ rD 0 (-5) = 1 by decide +kernel)
  have h := red_ok 0 (-5) (by unfold I64; omega) (by unfold I64; omega) (by omega) (by rw [e.1]; unfold I64; omega) (by rw [e.2]; unfold I64; omega) w
  rw [e.1, e.2] at h
  exact h
theorem k13 (w : World) : Calls Try.prog 24 #[.int .i64 (-9223372036854775808), .int .i64 (-1)] w fun e w' => e = .returned (.tuple #[.agg #[.int .i64 0, .int .i64 0], .int .i64 7]) ∧ Below w.heap.size w w' := by
  have e := (show rN (-9223372036854775808) (-1) = 9223372036854775808 by decide +kernel)
  exact red_no (-9223372036854775808) (-1) (by unfold I64; omega) (by unfold I64; omega) (by omega) (.inl (by rw [e]; unfold I64; omega)) w
theorem k14 (w : World) : Calls Try.prog 24 #[.int .i64 4611686018427387904, .int .i64 (-9223372036854775808)] w fun e w' => e = .returned (.tuple #[.agg #[.int .i64 (-1), .int .i64 2], .int .i64 0]) ∧ Below w.heap.size w w' := by
  have e := (show rN 4611686018427387904 (-9223372036854775808) = (-1) ∧ rD 4611686018427387904 (-9223372036854775808) = 2 by decide +kernel)
  have h := red_ok 4611686018427387904 (-9223372036854775808) (by unfold I64; omega) (by unfold I64; omega) (by omega) (by rw [e.1]; unfold I64; omega) (by rw [e.2]; unfold I64; omega) w
  rw [e.1, e.2] at h
  exact h
theorem k15 (w : World) : Calls Try.prog 24 #[.int .i64 3, .int .i64 0] w fun e w' => e = .returned (.tuple #[.agg #[.int .i64 0, .int .i64 0], .int .i64 2]) ∧ Below w.heap.size w w' := red_arg 3 w
theorem k16 (w : World) : Calls Try.prog 26 #[.agg #[.int .i64 1, .int .i64 2], .agg #[.int .i64 2, .int .i64 4]] w fun e w' => e = .returned (.tuple #[.int .i64 0, .int .i64 0]) ∧ Below w.heap.size w w' := by
  have e := (show sgn (1 * 4) (2 * 2) = 0 by decide +kernel)
  have h := comp_ok 1 2 2 4 (by unfold I64; omega) (by unfold I64; omega) (by unfold I64; omega) (by unfold I64; omega) (by omega) (by omega) w
  rw [e] at h
  exact h
theorem k17 (w : World) : Calls Try.prog 26 #[.agg #[.int .i64 (-1), .int .i64 3], .agg #[.int .i64 1, .int .i64 (-3)]] w fun e w' => e = .returned (.tuple #[.int .i64 0, .int .i64 2]) ∧ Below w.heap.size w w' := comp_no (-1) 3 1 (-3) (.inr (by omega)) w
theorem k18 (w : World) : Calls Try.prog 26 #[.agg #[.int .i64 9223372036854775807, .int .i64 9223372036854775806], .agg #[.int .i64 9223372036854775806, .int .i64 9223372036854775805]] w fun e w' => e = .returned (.tuple #[.int .i64 (-1), .int .i64 0]) ∧ Below w.heap.size w w' := by
  have e := (show sgn (9223372036854775807 * 9223372036854775805) (9223372036854775806 * 9223372036854775806) = (-1) by decide +kernel)
  have h := comp_ok 9223372036854775807 9223372036854775806 9223372036854775806 9223372036854775805 (by unfold I64; omega) (by unfold I64; omega) (by unfold I64; omega) (by unfold I64; omega) (by omega) (by omega) w
  rw [e] at h
  exact h

set_option maxRecDepth 100000 in
set_option maxHeartbeats 4000000 in
theorem walk (w : World) : Calls Try.prog 12 #[] w fun e w' => e = .returned (.bool true) ∧ Below w.heap.size w w' := by
  go_enter Try.func12, Try.ntmps12
  have bb0 := Below.refl w.heap.size w
  go_wp2_with fail
  refine (k1 _).mono ?_
  rintro e w' ⟨rfl, rfl⟩
  go_wp2_with fail
  refine (k2 _).mono ?_
  rintro e w' ⟨rfl, rfl⟩
  go_wp2_with fail
  refine (k3 _).mono ?_
  rintro e w' ⟨rfl, rfl⟩
  go_wp2_with fail
  refine (k4 _).mono ?_
  rintro e w' ⟨rfl, rfl⟩
  go_wp2_with fail
  refine (k5 _).mono ?_
  rintro e w1 ⟨rfl, b⟩
  have bb1 : Below w.heap.size w w1 := by first | exact bb0.trans (b.mono bb0.size) | exact (bb0.alloc bb0.size _).trans (b.mono (by have := bb0.size; simp; omega)) | exact ((bb0.alloc bb0.size _).alloc (by have := bb0.size; simp; omega) _).trans (b.mono (by have := bb0.size; simp; omega))
  clear b
  go_wp2_with fail
  refine (k6 _).mono ?_
  rintro e w2 ⟨rfl, b⟩
  have bb2 : Below w.heap.size w w2 := by first | exact bb1.trans (b.mono bb1.size) | exact (bb1.alloc bb1.size _).trans (b.mono (by have := bb1.size; simp; omega)) | exact ((bb1.alloc bb1.size _).alloc (by have := bb1.size; simp; omega) _).trans (b.mono (by have := bb1.size; simp; omega))
  clear b
  go_wp2_with fail
  refine (k7 _).mono ?_
  rintro e w3 ⟨rfl, b⟩
  have bb3 : Below w.heap.size w w3 := by first | exact bb2.trans (b.mono bb2.size) | exact (bb2.alloc bb2.size _).trans (b.mono (by have := bb2.size; simp; omega)) | exact ((bb2.alloc bb2.size _).alloc (by have := bb2.size; simp; omega) _).trans (b.mono (by have := bb2.size; simp; omega))
  clear b
  go_wp2_with fail
  refine (k8 _).mono ?_
  rintro e w4 ⟨rfl, b⟩
  have bb4 : Below w.heap.size w w4 := by first | exact bb3.trans (b.mono bb3.size) | exact (bb3.alloc bb3.size _).trans (b.mono (by have := bb3.size; simp; omega)) | exact ((bb3.alloc bb3.size _).alloc (by have := bb3.size; simp; omega) _).trans (b.mono (by have := bb3.size; simp; omega))
  clear b
  go_wp2_with fail
  refine (k9 _).mono ?_
  rintro e w5 ⟨rfl, b⟩
  have bb5 : Below w.heap.size w w5 := by first | exact bb4.trans (b.mono bb4.size) | exact (bb4.alloc bb4.size _).trans (b.mono (by have := bb4.size; simp; omega)) | exact ((bb4.alloc bb4.size _).alloc (by have := bb4.size; simp; omega) _).trans (b.mono (by have := bb4.size; simp; omega))
  clear b
  go_wp2_with fail
  refine (k10 _).mono ?_
  rintro e w6 ⟨rfl, b⟩
  have bb6 : Below w.heap.size w w6 := by first | exact bb5.trans (b.mono bb5.size) | exact (bb5.alloc bb5.size _).trans (b.mono (by have := bb5.size; simp; omega)) | exact ((bb5.alloc bb5.size _).alloc (by have := bb5.size; simp; omega) _).trans (b.mono (by have := bb5.size; simp; omega))
  clear b
  go_wp2_with fail
  refine (k11 _).mono ?_
  rintro e w7 ⟨rfl, b⟩
  have bb7 : Below w.heap.size w w7 := by first | exact bb6.trans (b.mono bb6.size) | exact (bb6.alloc bb6.size _).trans (b.mono (by have := bb6.size; simp; omega)) | exact ((bb6.alloc bb6.size _).alloc (by have := bb6.size; simp; omega) _).trans (b.mono (by have := bb6.size; simp; omega))
  clear b
  go_wp2_with fail
  refine (k12 _).mono ?_
  rintro e w8 ⟨rfl, b⟩
  have bb8 : Below w.heap.size w w8 := by first | exact bb7.trans (b.mono bb7.size) | exact (bb7.alloc bb7.size _).trans (b.mono (by have := bb7.size; simp; omega)) | exact ((bb7.alloc bb7.size _).alloc (by have := bb7.size; simp; omega) _).trans (b.mono (by have := bb7.size; simp; omega))
  clear b
  go_wp2_with fail
  refine (k13 _).mono ?_
  rintro e w9 ⟨rfl, b⟩
  have bb9 : Below w.heap.size w w9 := by first | exact bb8.trans (b.mono bb8.size) | exact (bb8.alloc bb8.size _).trans (b.mono (by have := bb8.size; simp; omega)) | exact ((bb8.alloc bb8.size _).alloc (by have := bb8.size; simp; omega) _).trans (b.mono (by have := bb8.size; simp; omega))
  have Ab8_9 := hide ((At.new _ _ _ _).step b)
  clear b
  go_wp2_with fail
  refine (k14 _).mono ?_
  rintro e w10 ⟨rfl, b⟩
  have bb10 : Below w.heap.size w w10 := by first | exact bb9.trans (b.mono bb9.size) | exact (bb9.alloc bb9.size _).trans (b.mono (by have := bb9.size; simp; omega)) | exact ((bb9.alloc bb9.size _).alloc (by have := bb9.size; simp; omega) _).trans (b.mono (by have := bb9.size; simp; omega))
  have Ab8_10 := hide ((Ab8_9.out.alloc _ _).step b)
  clear Ab8_9
  have Ab9_10 := hide ((At.new _ _ _ _).step b)
  clear b
  go_wp2_with fail
  refine (k15 _).mono ?_
  rintro e w11 ⟨rfl, b⟩
  have bb11 : Below w.heap.size w w11 := by first | exact bb10.trans (b.mono bb10.size) | exact (bb10.alloc bb10.size _).trans (b.mono (by have := bb10.size; simp; omega)) | exact ((bb10.alloc bb10.size _).alloc (by have := bb10.size; simp; omega) _).trans (b.mono (by have := bb10.size; simp; omega))
  have Ab8_11 := hide ((Ab8_10.out.alloc _ _).step b)
  clear Ab8_10
  have Ab9_11 := hide ((Ab9_10.out.alloc _ _).step b)
  clear Ab9_10
  have Ab10_11 := hide ((At.new _ _ _ _).step b)
  clear b
  obtain ⟨g1, g2, g3⟩ := Ab8_11.out
  obtain ⟨g4, g5, g6⟩ := Ab9_11.out
  obtain ⟨g7, g8, g9⟩ := Ab10_11.out
  clear Ab8_11 Ab9_11 Ab10_11
  go_wp2_with fail
  refine (k16 _).mono ?_
  rintro e w12 ⟨rfl, b⟩
  have bb12 : Below w.heap.size w w12 := (bb11.alloc bb11.size _).trans (b.mono (by have := bb11.size; simp; omega))
  clear b g1 g2 g3 g4 g5 g6 g7 g8 g9
  go_wp2_with fail
  refine (k17 _).mono ?_
  rintro e w13 ⟨rfl, b⟩
  have bb13 : Below w.heap.size w w13 := bb12.trans (b.mono bb12.size)
  clear b
  go_wp2_with fail
  refine (k18 _).mono ?_
  rintro e w14 ⟨rfl, b⟩
  have bb14 : Below w.heap.size w w14 := bb13.trans (b.mono bb13.size)
  clear b
  go_wp2_with fail
  refine (works _).mono ?_
  rintro e w15 ⟨rfl, b⟩
  have bb15 : Below w.heap.size w w15 := bb14.trans (b.mono bb14.size)
  clear b
  go_wp2_with fail
  go_ret
  exact ⟨rfl, bb15⟩
theorem own : ownKnob Try.prog.godebug = none := by kernel_rfl
theorem laidOut : laidOutB Try.prog = true := by kernel_rfl
set_option maxRecDepth 100000 in
theorem lifted (os : Os) (started : os.Started) (H : Type) (enc : TypeId × Value → H) :
    ReturnsInHanded {} Try.checked os 12 .any (Rows.checkedKnownSpec.pre6 enc Try.prog Try.f12 Rows.checkedKnownRow.domain false) (Rows.checkedKnownSpec.post enc Try.prog Try.f12 false true false false) := by
  refine returnsInHanded_of_change (C := Try.checked) own started (by kernel_rfl) Try.func12
    (ChangeSpec.witness6 (enc := enc) (C := Try.checked) false ⟨#[], #[], []⟩ 8 (by kernel_rfl) (by kernel_rfl) (by kernel_rfl) (by kernel_rfl)) ?_
  intro W base args ds gs before hval0 hW hcnd _
  have hval : ∀ (j : Nat) t v, Try.f12.params[j]? = some t → args[j]? = some v → Value.okWide Try.prog W .any base t v := hval0
  have hW' := hW
  obtain ⟨p, q, hA0, hV, rfl, hfz, hnd⟩ := hW
  have hA : DataW.TrodAll enc Try.prog W 0 (fun _ => true) true Try.f12.params.toList args.toList ds p := hA0
  rw [Try.params12] at hA hval
  obtain ⟨hargs, rfl, rfl⟩ := trodAll_none hA
  obtain rfl : args = #[] := by cases args; simp_all
  obtain ⟨rfl, rfl⟩ := trodVars_none hV
  clear hA0 hval0
  refine (walk  W).mono fun e W' ⟨he, bel⟩ => ?_
  subst he
  exact ⟨_, rfl, _, _, _, [], _, [], hW', trodAll_mk1 (shut_bool Try.underlying4 _), trodAll_mk0, rfl, bel.frame _, fun h => by cases h⟩
theorem holds : Rows.checkedKnownRow.holds Try.pinned (OpenSpec.ofChange Rows.checkedKnownSpec) :=
  OpenClaim.holds_of_wide 12 Try.f12 rfl rfl rfl rfl rfl rfl rfl ⟨rfl, rfl, rfl, rfl, rfl⟩ rfl rfl rfl rfl rfl (by kernel_rfl) Try.func12 (by kernel_rfl)
    (of_decide_eq_true (by kernel_rfl)) (by unfold Func.isWrapper; first | (rw [if_pos (by decide +kernel)]; kernel_rfl) | (rw [if_neg (by decide +kernel)]; exact ⟨rfl, rfl⟩))
    (fun os started H enc _ => lifted os started H enc)
theorem proved : Rows.CheckedKnownSaid := holds
end Go.Proofs.Ytomgdleoegaooaa.lawKnown
