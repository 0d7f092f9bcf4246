/- MsortLess holds: which of two records is before the other one is as the document says. -/
import Derived.Test.YtiebmjdclicheaaMW
import Derived.Test.YtiebmjdclicheaaOp
import Derived.Test.YtiebmjdclicheaaRows
import Derived.Deep.CutRange
import Derived.StillTailTactics
set_option linter.unusedVariables false
set_option linter.unusedSimpArgs false
namespace Go.Proofs.Ytiebmjdclicheaa
open Go.RowKit
namespace lawLess
open Go.ChangeShapes Go.WideShapes Go.ChangeAt Go.RowKit Go.Joins
set_option maxRecDepth 100000 in
set_option maxHeartbeats 8000000 in
theorem walk (u1 v1 x1 t1 u2 v2 x2 t2 k : Int) (w : World) (_ : 0 ≤ u1 ∧ u1 ≤ 18446744073709551615) (_ : 0 ≤ v1 ∧ v1 ≤ 18446744073709551615) (_ : -9223372036854775808 ≤ x1 ∧ x1 ≤ 9223372036854775807) (_ : -9223372036854775808 ≤ t1 ∧ t1 ≤ 9223372036854775807) (_ : 0 ≤ u2 ∧ u2 ≤ 18446744073709551615) (_ : 0 ≤ v2 ∧ v2 ≤ 18446744073709551615) (_ : -9223372036854775808 ≤ x2 ∧ x2 ≤ 9223372036854775807) (_ : -9223372036854775808 ≤ t2 ∧ t2 ≤ 9223372036854775807) (_ : -9223372036854775808 ≤ k ∧ k ≤ 9223372036854775807) : Calls Try.prog 3 #[.agg #[.int .u64 u1, .int .u64 v1, .int .i64 x1, .int .i64 t1], .agg #[.int .u64 u2, .int .u64 v2, .int .i64 x2, .int .i64 t2], .int .i64 k] w fun e w' => e = .returned (.bool true) ∧ Below w.heap.size w w' := by
  rename_i h1 h2 h3 h4 h5 h6 h7 h8 h9
  clear h1 h2 h3 h4 h5 h6 h7 h8 h9
  have LP := hide (fun w => lessP_t ⟨u1, v1, x1, t1⟩ ⟨u2, v2, x2, t2⟩ k w)
  have LR := hide (fun w => lessR_t ⟨u1, v1, x1, t1⟩ ⟨u2, v2, x2, t2⟩ k w)
  have WK := hide works_t
  unfold R4.val at LP LR
  generalize lessA k ⟨u1, v1, x1, t1⟩ ⟨u2, v2, x2, t2⟩ = a at *
  generalize lessE k = z at *
  have K2 := hide ((Kp.alloc w (.cells #[.int .u64 u1, .int .u64 v1, .int .i64 x1, .int .i64 t1] 24)).allocK (.cells #[.int .u64 u2, .int .u64 v2, .int .i64 x2, .int .i64 t2] 24))
  have CB := hide (fun (w1 : World) (kk : Kp [] ((w.alloc (.cells #[.int .u64 u1, .int .u64 v1, .int .i64 x1, .int .i64 t1] 24)).alloc (.cells #[.int .u64 u2, .int .u64 v2, .int .i64 x2, .int .i64 t2] 24)) w1) => And.intro (at4_blk (x := ⟨u1, v1, x1, t1⟩) (kk.blk ((Kp.alloc _ _).blk (heap_alloc_new w _) (by simp)) (by simp))) (at4_blk (x := ⟨u2, v2, x2, t2⟩) (kk.blk (heap_alloc_new _ _) (by simp))))
  rw [show (w.alloc (.cells #[.int .u64 u1, .int .u64 v1, .int .i64 x1, .int .i64 t1] 24)).heap.size = w.heap.size + 1 by simp] at CB
  go_enter Try.func3, Try.ntmps3
  go_wp2_with fail
  refine (LP.out _).mono ?_
  rintro e w1 ⟨rfl, k1⟩
  obtain ⟨⟨a1, a2, a3, a4⟩, b1, b2, b3, b4⟩ := CB.out _ k1
  have K3 := hide (K2.out.trans0 k1)
  clear k1 CB
  go_wp2_with fail
  refine (LR.out _).mono ?_
  rintro e w2 ⟨rfl, k2⟩
  have K4 := hide (K3.out.trans0 k2)
  clear k2
  clear a1 a2 a3 a4 b1 b2 b3 b4
  go_wp2_with fail
  refine (WK.out _).mono ?_
  rintro e w3 ⟨rfl, k3⟩
  have K5 := hide (K4.out.trans0 k3)
  clear k3
  go_wp2_with fail
  go_ret
  exact ⟨rfl, K5.out.below (by simp) (Nat.le_refl _)⟩
theorem own : ownKnob Try.prog.godebug = none := by kernel_rfl
theorem laidOut : laidOutB Try.prog = true := by kernel_rfl
set_option maxRecDepth 100000 in
theorem lifted (os : Os) (started : os.Started) (H : Type) (enc : TypeId × Value → H) :
    ReturnsInHanded {} Try.checked os 3 .any (Rows.msortLessSpec.pre6 enc Try.prog Try.f3 Rows.msortLessRow.domain false) (Rows.msortLessSpec.post enc Try.prog Try.f3 false true false false) := by
  refine returnsInHanded_of_change (C := Try.checked) own started (by kernel_rfl) Try.func3
    (ChangeSpec.witness6 (enc := enc) (C := Try.checked) false ⟨#[], #[.agg #[.int .u64 0, .int .u64 0, .int .i64 0, .int .i64 0], .agg #[.int .u64 0, .int .u64 0, .int .i64 0, .int .i64 0], .int .i64 0], []⟩ 8 (by kernel_rfl) (by kernel_rfl) (by kernel_rfl) (by kernel_rfl)) ?_
  intro W base args ds gs before hval0 hW hcnd _
  have hval : ∀ (j : Nat) t v, Try.f3.params[j]? = some t → args[j]? = some v → Value.okWide Try.prog W .any base t v := hval0
  have hW' := hW
  obtain ⟨p, q, hA0, hV, rfl, hfz, hnd⟩ := hW
  have hA : DataW.TrodAll enc Try.prog W 0 (fun _ => true) true Try.f3.params.toList args.toList ds p := hA0
  rw [Try.params3] at hA hval
  obtain ⟨v0, vs0, d0, ds0, p0, q0, hargs, rfl, rfl, h0, r0⟩ := trodAll_cons hA
  obtain ⟨v1, vs1, d1, ds1, p1, q1, rfl, rfl, rfl, h1, r1⟩ := trodAll_cons r0
  obtain ⟨v2, vs2, d2, ds2, p2, q2, rfl, rfl, rfl, h2, r2⟩ := trodAll_cons r1
  obtain ⟨rfl, rfl, rfl⟩ := trodAll_nil r2
  obtain rfl : args = #[v0, v1, v2] := by cases args; simp_all
  obtain ⟨rfl, rfl⟩ := trodVars_none hV
  have k0 := h0
  have lt0 : ∀ x ∈ p0, x.block < W.heap.size := by obtain ⟨m, hm⟩ := k0; exact DataW.trod_lt m _ _ _ hm
  have k1 := h1
  have lt1 : ∀ x ∈ p1, x.block < W.heap.size := by obtain ⟨m, hm⟩ := k1; exact DataW.trod_lt m _ _ _ hm
  have k2 := h2
  have lt2 : ∀ x ∈ p2, x.block < W.heap.size := by obtain ⟨m, hm⟩ := k2; exact DataW.trod_lt m _ _ _ hm
  obtain ⟨Z0, rfl, w0⟩ := agg_in (flat_struct (ks := [.u64, .u64, .i64, .i64]) Try.underlying24 (by kernel_rfl) (by kernel_rfl)) (okWide_struct Try.underlying24 (hval 0 24 v0 rfl rfl)) h0
  obtain ⟨Z1, rfl, w1⟩ := agg_in (flat_struct (ks := [.u64, .u64, .i64, .i64]) Try.underlying24 (by kernel_rfl) (by kernel_rfl)) (okWide_struct Try.underlying24 (hval 1 24 v1 rfl rfl)) h1
  obtain ⟨a2, rfl, _, _, w2⟩ := open_int Try.underlying25 (hval 2 25 v2 rfl rfl) h2
  clear hA0 hval0
  refine (walk (Z0 0) (Z0 1) (Z0 2) (Z0 3) (Z1 0) (Z1 1) (Z1 2) (Z1 3) a2 W (bounds_u64 (w0 0 _ rfl)) (bounds_u64 (w0 1 _ rfl)) (bounds_i64 (w0 2 _ rfl)) (bounds_i64 (w0 3 _ rfl)) (bounds_u64 (w1 0 _ rfl)) (bounds_u64 (w1 1 _ rfl)) (bounds_i64 (w1 2 _ rfl)) (bounds_i64 (w1 3 _ rfl)) (bounds_i64 w2)).mono fun e W' ⟨he, bel⟩ => ?_
  subst he
  exact ⟨_, rfl, _, _, _, [], _, [], hW', trodAll_mk1 (shut_bool Try.underlying4 _), (trodAll_cons_mk (Below.trod laidOut (by kernel_rfl) (of_decide_eq_true (by kernel_rfl)) k0 bel lt0) (trodAll_cons_mk (Below.trod laidOut (by kernel_rfl) (of_decide_eq_true (by kernel_rfl)) k1 bel lt1) (trodAll_cons_mk (Below.trod laidOut (by kernel_rfl) (of_decide_eq_true (by kernel_rfl)) k2 bel lt2) trodAll_mk0))), rfl, bel.frame _, fun h => by cases h⟩
theorem holds : Rows.msortLessRow.holds Try.pinned (OpenSpec.ofChange Rows.msortLessSpec) :=
  OpenClaim.holds_of_wide 3 Try.f3 rfl rfl rfl rfl rfl rfl rfl ⟨rfl, rfl, rfl, rfl, rfl⟩ rfl rfl rfl rfl rfl (by kernel_rfl) Try.func3 (by kernel_rfl)
    (of_decide_eq_true (by kernel_rfl)) (by unfold Func.isWrapper; first | (rw [if_pos (by decide +kernel)]; kernel_rfl) | (rw [if_neg (by decide +kernel)]; exact ⟨rfl, rfl⟩))
    (fun os started H enc _ => lifted os started H enc)
theorem proved : Rows.MsortLessSaid := holds
end lawLess
end Go.Proofs.Ytiebmjdclicheaa
