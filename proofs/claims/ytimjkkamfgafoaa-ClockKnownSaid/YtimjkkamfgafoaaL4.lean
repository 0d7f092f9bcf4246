/- ClockKnown holds: the examples of the chapter, and the limits. -/
import Derived.Test.YtimjkkamfgafoaaC
import Derived.Test.YtimjkkamfgafoaaOp
import Derived.Test.YtimjkkamfgafoaaRows
import Derived.Deep.CutRange
set_option linter.unusedVariables false
set_option linter.unusedSimpArgs false
namespace Go.Proofs.Ytimjkkamfgafoaa
open Go.RowKit
theorem Cl.other {w w' : World} {b c : Nat} {n t : Int} (h : Cl w b n t) (k : Kp [c] w w') (d : b ≠ c) : Cl w' b n t := h.keep k (by simpa using d)
namespace lawKnown
open Go.ChangeShapes Go.WideShapes Go.ChangeAt Go.RowKit Go.Joins
set_option maxRecDepth 100000 in
set_option maxHeartbeats 16000000 in
theorem walk (w : World) : Calls Try.prog 10 #[] w fun e w' => e = .returned (.bool true) ∧ Below w.heap.size w w' := by
  have i1 := i64_of (n := 4) (by omega)
  go_enter Try.func10, Try.ntmps10
  clear i1
  go_wp2_with fail
  refine (new_t 10 _ (by omega) (by omega)).mono ?_
  rintro e w1 ⟨rfl, C, B⟩
  have HB := hide B
  obtain ⟨b, hb⟩ : ∃ b, b = w.heap.size := ⟨_, rfl⟩
  rw [← hb] at C ⊢
  have gb := hide (show w.heap.size ≤ b by omega)
  have A := hide (advance_t C 4 (i64_of (by omega)))
  rw [show ck 10 0 4 = 0 by decide, show nx 10 0 4 = 4 by decide] at A
  have zb := hide C.lt
  clear C B hb
  go_wp2_with fail
  refine A.out.mono ?_
  rintro e w2 ⟨rfl, C, K⟩
  have HB2 := hide (HB.out.trans (K.below (by simpa using gb.out) HB.out.size))
  have A2 := hide (advance_t C 3 (i64_of (by omega)))
  rw [show ck 10 4 3 = 10 by decide, show nx 10 4 3 = 4 by decide] at A2
  clear C K A HB
  go_wp2_with fail
  refine A2.out.mono ?_
  rintro e w3 ⟨rfl, C, K⟩
  have HB3 := hide (HB2.out.trans (K.below (by simpa using gb.out) HB2.out.size))
  have A := hide (advance_t C 4 (i64_of (by omega)))
  rw [show ck 10 4 4 = 0 by decide, show nx 10 4 4 = 4 by decide] at A
  clear C K A2 HB2
  go_wp2_with fail
  refine A.out.mono ?_
  rintro e w4 ⟨rfl, C, K⟩
  have HB4 := hide (HB3.out.trans (K.below (by simpa using gb.out) HB3.out.size))
  have Q1 := hide (check_t C 9223372036854775798 (i64_of (by omega)))
  rw [show ck 10 4 9223372036854775798 = 7 by decide] at Q1
  have Q2 := hide (check_t C 9223372036854775797 (i64_of (by omega)))
  rw [show ck 10 4 9223372036854775797 = 0 by decide] at Q2
  have Q3 := hide (now_t C)
  have Q4 := hide (copy_t C)
  have HC := hide C
  clear C K A HB3
  go_wp2_with fail
  refine Q1.out.mono ?_
  rintro e w' ⟨rfl, rfl⟩
  go_wp2_with fail
  refine Q2.out.mono ?_
  rintro e w' ⟨rfl, rfl⟩
  go_wp2_with fail
  refine Q3.out.mono ?_
  rintro e w' ⟨rfl, rfl⟩
  go_wp2_with fail
  refine Q4.out.mono ?_
  rintro e w5 ⟨rfl, D, B⟩
  have HB5 := hide (HB4.out.trans (B.mono HB4.out.size))
  have C := HC.out.below B HC.out.lt
  obtain ⟨d, hd⟩ : ∃ d, d = w4.heap.size := ⟨_, rfl⟩
  rw [← hd] at D ⊢
  have ne := hide (show d ≠ b by have := HC.out.lt; omega)
  have A := hide (advance_t C 10 (i64_of (by omega)))
  rw [show ck 10 4 10 = 0 by decide, show nx 10 4 10 = 10 by decide] at A
  have HD := hide D
  clear B C D hd Q1 Q2 Q3 Q4 HC HB4
  go_wp2_with fail
  refine A.out.mono ?_
  rintro e w6 ⟨rfl, C, K⟩
  have HB6 := hide (HB5.out.trans (K.below (by simpa using gb.out) HB5.out.size))
  have D := HD.out.other K ne.out
  have Q1 := hide (live_t C 0 (i64_of (by omega)))
  rw [show lv 10 10 0 = false by decide] at Q1
  have Q2 := hide (live_t C 1 (i64_of (by omega)))
  rw [show lv 10 10 1 = true by decide] at Q2
  have Q3 := hide (live_t C 10 (i64_of (by omega)))
  rw [show lv 10 10 10 = true by decide] at Q3
  have Q4 := hide (now_t D)
  have Q5 := hide (live_t D 0 (i64_of (by omega)))
  rw [show lv 10 4 0 = true by decide] at Q5
  have Q6 := hide (live_t D 5 (i64_of (by omega)))
  rw [show lv 10 4 5 = false by decide] at Q6
  have Q7 := hide (window_t D)
  have Q8 := hide (expiry_t C 9223372036854775797 (i64_of (by omega)))
  rw [show gv (9223372036854775797 + 10) = 9223372036854775807 by decide, show ge (9223372036854775797 + 10) = 0 by decide] at Q8
  have Q9 := hide (expiry_t C 9223372036854775798 (i64_of (by omega)))
  rw [show gv (9223372036854775798 + 10) = 0 by decide, show ge (9223372036854775798 + 10) = 7 by decide] at Q9
  have Q10 := hide (live_t C (-9223372036854775808) (i64_of (by omega)))
  rw [show lv 10 10 (-9223372036854775808) = false by decide] at Q10
  clear C D K A HB5 HD
  go_wp2_with fail
  refine Q1.out.mono ?_
  rintro e w' ⟨rfl, rfl⟩
  go_wp2_with fail
  refine Q2.out.mono ?_
  rintro e w' ⟨rfl, rfl⟩
  go_wp2_with fail
  refine Q3.out.mono ?_
  rintro e w' ⟨rfl, rfl⟩
  go_wp2_with fail
  refine Q4.out.mono ?_
  rintro e w' ⟨rfl, rfl⟩
  go_wp2_with fail
  refine Q5.out.mono ?_
  rintro e w' ⟨rfl, rfl⟩
  go_wp2_with fail
  refine Q6.out.mono ?_
  rintro e w' ⟨rfl, rfl⟩
  go_wp2_with fail
  refine Q7.out.mono ?_
  rintro e w' ⟨rfl, rfl⟩
  go_wp2_with fail
  refine Q8.out.mono ?_
  rintro e w' ⟨rfl, rfl⟩
  go_wp2_with fail
  refine Q9.out.mono ?_
  rintro e w' ⟨rfl, rfl⟩
  go_wp2_with fail
  refine Q10.out.mono ?_
  rintro e w' ⟨rfl, rfl⟩
  clear Q1 Q2 Q3 Q4 Q5 Q6 Q7 Q8 Q9 Q10
  go_wp2_with fail
  refine (new_f 0 _ (by omega)).mono ?_
  rintro e w' ⟨rfl, rfl⟩
  go_wp2_with fail
  refine (new_f (-9223372036854775808) _ (by omega)).mono ?_
  rintro e w' ⟨rfl, rfl⟩
  go_wp2_with fail
  refine (new_t 9223372036854775807 _ (by omega) (by omega)).mono ?_
  rintro e w7 ⟨rfl, C, B⟩
  have HB7 := hide (HB6.out.trans (B.mono HB6.out.size))
  have gb2 := hide (show w.heap.size ≤ w6.heap.size from HB6.out.size)
  obtain ⟨c, hc⟩ : ∃ c, c = w6.heap.size := ⟨_, rfl⟩
  rw [← hc] at C gb2 ⊢
  have A := hide (advance_t C 0 (i64_of (by omega)))
  rw [show ck 9223372036854775807 0 0 = 0 by decide, show nx 9223372036854775807 0 0 = 0 by decide] at A
  clear C B hc HB6 gb ne zb
  go_wp2_with fail
  refine A.out.mono ?_
  rintro e w8 ⟨rfl, C, K⟩
  have HB8 := hide (HB7.out.trans (K.below (by simpa using gb2.out) HB7.out.size))
  have A2 := hide (advance_t C 1 (i64_of (by omega)))
  rw [show ck 9223372036854775807 0 1 = 7 by decide, show nx 9223372036854775807 0 1 = 0 by decide] at A2
  clear C K A HB7
  go_wp2_with fail
  refine A2.out.mono ?_
  rintro e w9 ⟨rfl, C, K⟩
  have HB9 := hide (HB8.out.trans (K.below (by simpa using gb2.out) HB8.out.size))
  have A := hide (advance_t C (-1) (i64_of (by omega)))
  rw [show ck 9223372036854775807 0 (-1) = 10 by decide, show nx 9223372036854775807 0 (-1) = 0 by decide] at A
  clear C K A2 HB8
  go_wp2_with fail
  refine A.out.mono ?_
  rintro e w10 ⟨rfl, C, K⟩
  have HB10 := hide (HB9.out.trans (K.below (by simpa using gb2.out) HB9.out.size))
  have Q1 := hide (expiry_t C (-9223372036854775808) (i64_of (by omega)))
  rw [show gv (-9223372036854775808 + 9223372036854775807) = -1 by decide, show ge (-9223372036854775808 + 9223372036854775807) = 0 by decide] at Q1
  have Q2 := hide (live_t C (-9223372036854775806) (i64_of (by omega)))
  rw [show lv 9223372036854775807 0 (-9223372036854775806) = true by decide] at Q2
  have Q3 := hide (live_t C (-9223372036854775807) (i64_of (by omega)))
  rw [show lv 9223372036854775807 0 (-9223372036854775807) = false by decide] at Q3
  clear C K A HB9
  go_wp2_with fail
  refine Q1.out.mono ?_
  rintro e w' ⟨rfl, rfl⟩
  go_wp2_with fail
  refine Q2.out.mono ?_
  rintro e w' ⟨rfl, rfl⟩
  go_wp2_with fail
  refine Q3.out.mono ?_
  rintro e w' ⟨rfl, rfl⟩
  clear Q1 Q2 Q3
  go_wp2_with fail
  refine (works _).mono ?_
  rintro e w11 ⟨rfl, bw⟩
  have HB11 := hide (HB10.out.trans (bw.mono HB10.out.size))
  clear bw
  go_wp2_with fail
  go_ret
  exact ⟨rfl, HB11.out⟩
theorem own : ownKnob Try.prog.godebug = none := by kernel_rfl
theorem laidOut : laidOutB Try.prog = true := by kernel_rfl
set_option maxRecDepth 100000 in
theorem lifted (os : Os) (started : os.Started) (H : Type) (enc : TypeId × Value → H) :
    ReturnsInHanded {} Try.checked os 10 .any (Rows.clockKnownSpec.pre6 enc Try.prog Try.f10 Rows.clockKnownRow.domain false) (Rows.clockKnownSpec.post enc Try.prog Try.f10 false true false false) := by
  refine returnsInHanded_of_change (C := Try.checked) own started (by kernel_rfl) Try.func10
    (ChangeSpec.witness6 (enc := enc) (C := Try.checked) false ⟨#[], #[], []⟩ 8 (by kernel_rfl) (by kernel_rfl) (by kernel_rfl) (by kernel_rfl)) ?_
  intro W base args ds gs before hval0 hW hcnd _
  have hval : ∀ (j : Nat) t v, Try.f10.params[j]? = some t → args[j]? = some v → Value.okWide Try.prog W .any base t v := hval0
  have hW' := hW
  obtain ⟨p, q, hA0, hV, rfl, hfz, hnd⟩ := hW
  have hA : DataW.TrodAll enc Try.prog W 0 (fun _ => true) true Try.f10.params.toList args.toList ds p := hA0
  rw [Try.params10] at hA hval
  obtain ⟨hargs, rfl, rfl⟩ := trodAll_none hA
  obtain rfl : args = #[] := by cases args; simp_all
  obtain ⟨rfl, rfl⟩ := trodVars_none hV
  clear hA0 hval0
  refine (walk W).mono fun e W' ⟨he, bel⟩ => ?_
  subst he
  exact ⟨_, rfl, _, _, _, [], _, [], hW', trodAll_mk1 (shut_bool Try.underlying4 _), trodAll_mk0, rfl, bel.frame _, fun h => by cases h⟩
theorem holds : Rows.clockKnownRow.holds Try.pinned (OpenSpec.ofChange Rows.clockKnownSpec) :=
  OpenClaim.holds_of_wide 10 Try.f10 rfl rfl rfl rfl rfl rfl rfl ⟨rfl, rfl, rfl, rfl, rfl⟩ rfl rfl rfl rfl rfl (by kernel_rfl) Try.func10 (by kernel_rfl)
    (of_decide_eq_true (by kernel_rfl)) (by unfold Func.isWrapper; first | (rw [if_pos (by decide +kernel)]; kernel_rfl) | (rw [if_neg (by decide +kernel)]; exact ⟨rfl, rfl⟩))
    (fun os started H enc _ => lifted os started H enc)
theorem proved : Rows.ClockKnownSaid := holds
end lawKnown
end Go.Proofs.Ytimjkkamfgafoaa
