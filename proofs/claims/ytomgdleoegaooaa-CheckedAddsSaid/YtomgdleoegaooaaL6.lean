/- CheckedAdds: for any two numbers the law answers true: sums, differences and products are those of the specification. No condition. -/
import Derived.Test.YtomgdleoegaooaaG2
set_option linter.unusedVariables false
set_option linter.unusedSimpArgs false
namespace Go.Proofs.Ytomgdleoegaooaa.lawAdds
open Go.RowKit

set_option maxRecDepth 100000 in
set_option maxHeartbeats 1000000 in
theorem walk (a b : Int) (ha : I64 a) (hb : I64 b) (w : World) :
    Calls Try.prog 3 #[.int .i64 a, .int .i64 b] w fun e w' => e = .returned (.bool true) ∧ Below w.heap.size w w' := by
  have A1 := hide (g_add a b ha hb)
  have A2 := hide (fun w => (ref_add a b ha hb w).mono fun _ _ h => FPost.g h)
  have B1 := hide (g_sub a b ha hb)
  have B2 := hide (fun w => (ref_sub a b ha hb w).mono fun _ _ h => FPost.g h)
  have C1 := hide (g_mul a b ha hb)
  have C2 := hide (fun w => (ref_mul a b ha hb w).mono fun _ _ h => FPost.g h)
  have bb0 := Below.refl w.heap.size w
  clear ha hb
  go_enter Try.func3, Try.ntmps3
  go_wp2_with fail
  refine (A1.out _).mono ?_
  rintro e w1 ⟨rfl, bz⟩
  have bb1 := bb0.trans (bz.mono bb0.size)
  clear bz
  go_wp2_with fail
  refine (A2.out _).mono ?_
  rintro e w2 ⟨rfl, bz⟩
  have bb2 := bb1.trans (bz.mono bb1.size)
  clear bz
  go_wp2_with fail
  refine (B1.out _).mono ?_
  rintro e w3 ⟨rfl, bz⟩
  have bb3 := bb2.trans (bz.mono bb2.size)
  clear bz
  go_wp2_with fail
  refine (B2.out _).mono ?_
  rintro e w4 ⟨rfl, bz⟩
  have bb4 := bb3.trans (bz.mono bb3.size)
  clear bz
  go_wp2_with fail
  refine (C1.out _).mono ?_
  rintro e w5 ⟨rfl, bz⟩
  have bb5 := bb4.trans (bz.mono bb4.size)
  clear bz
  go_wp2_with fail
  refine (C2.out _).mono ?_
  rintro e w6 ⟨rfl, bz⟩
  have bb6 := bb5.trans (bz.mono bb5.size)
  clear bz
  go_wp2_with fail
  refine (works _).mono ?_
  rintro e w7 ⟨rfl, bz⟩
  go_wp2_with fail
  go_ret
  exact ⟨rfl, bb6.trans (bz.mono bb6.size)⟩
open Go.ChangeShapes Go.WideShapes Go.ChangeAt Go.RowKit Go.Joins
theorem own : ownKnob Try.prog.godebug = none := by kernel_rfl
theorem laidOut : laidOutB Try.prog = true := by kernel_rfl
set_option maxRecDepth 100000 in
theorem lifted (os : Os) (started : os.Started) (H : Type) (enc : TypeId × Value → H) :
    ReturnsInHanded {} Try.checked os 3 .any (Rows.checkedAddsSpec.pre6 enc Try.prog Try.f3 Rows.checkedAddsRow.domain false) (Rows.checkedAddsSpec.post enc Try.prog Try.f3 false true false false) := by
  refine returnsInHanded_of_change (C := Try.checked) own started (by kernel_rfl) Try.func3
    (ChangeSpec.witness6 (enc := enc) (C := Try.checked) false ⟨#[], #[.int .i64 0, .int .i64 0], []⟩ 8 (by kernel_rfl) (by kernel_rfl) (by kernel_rfl) (by kernel_rfl)) ?_
  intro W base args ds gs before hval0 hW hcnd _
  have hval : ∀ (j : Nat) t v, Try.f3.params[j]? = some t → args[j]? = some v → Value.okWide Try.prog W .any base t v := hval0
  have hW' := hW
  obtain ⟨p, q, hA0, hV, rfl, hfz, hnd⟩ := hW
  have hA : DataW.TrodAll enc Try.prog W 0 (fun _ => true) true Try.f3.params.toList args.toList ds p := hA0
  rw [Try.params3] at hA hval
  obtain ⟨v0, vs0, d0, ds0, p0, q0, hargs, rfl, rfl, h0, r0⟩ := trodAll_cons hA
  obtain ⟨v1, vs1, d1, ds1, p1, q1, rfl, rfl, rfl, h1, r1⟩ := trodAll_cons r0
  obtain ⟨rfl, rfl, rfl⟩ := trodAll_nil r1
  obtain rfl : args = #[v0, v1] := by cases args; simp_all
  obtain ⟨rfl, rfl⟩ := trodVars_none hV
  have k0 := h0
  have lt0 : ∀ x ∈ p0, x.block < W.heap.size := by obtain ⟨m, hm⟩ := k0; exact DataW.trod_lt m _ _ _ hm
  have k1 := h1
  have lt1 : ∀ x ∈ p1, x.block < W.heap.size := by obtain ⟨m, hm⟩ := k1; exact DataW.trod_lt m _ _ _ hm
  obtain ⟨a0, rfl, _, _, w0⟩ := open_int Try.underlying2 (hval 0 2 v0 rfl rfl) h0
  obtain ⟨a1, rfl, _, _, w1⟩ := open_int Try.underlying2 (hval 1 2 v1 rfl rfl) h1
  clear hA0 hval0
  refine (walk a0 a1 (wf_I64 w0) (wf_I64 w1) W).mono fun e W' ⟨he, bel⟩ => ?_
  subst he
  exact ⟨_, rfl, _, _, _, [], _, [], hW', trodAll_mk1 (shut_bool Try.underlying4 _), (trodAll_cons_mk (Below.trod laidOut (by kernel_rfl) (of_decide_eq_true (by kernel_rfl)) k0 bel lt0) (trodAll_cons_mk (Below.trod laidOut (by kernel_rfl) (of_decide_eq_true (by kernel_rfl)) k1 bel lt1) trodAll_mk0)), rfl, bel.frame _, fun h => by cases h⟩
theorem holds : Rows.checkedAddsRow.holds Try.pinned (OpenSpec.ofChange Rows.checkedAddsSpec) :=
  OpenClaim.holds_of_wide 3 Try.f3 rfl rfl rfl rfl rfl rfl rfl ⟨rfl, rfl, rfl, rfl, rfl⟩ rfl rfl rfl rfl rfl (by kernel_rfl) Try.func3 (by kernel_rfl)
    (of_decide_eq_true (by kernel_rfl)) (by unfold Func.isWrapper; first | (rw [if_pos (by decide +kernel)]; kernel_rfl) | (rw [if_neg (by decide +kernel)]; exact ⟨rfl, rfl⟩))
    (fun os started H enc _ => lifted os started H enc)
theorem proved : Rows.CheckedAddsSaid := holds
end Go.Proofs.Ytomgdleoegaooaa.lawAdds
