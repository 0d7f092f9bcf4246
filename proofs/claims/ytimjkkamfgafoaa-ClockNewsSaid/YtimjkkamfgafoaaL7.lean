/- ClockNews holds: New returns a clock, or ErrArg, as the document says. -/
import Derived.Test.YtimjkkamfgafoaaF
import Derived.Test.YtimjkkamfgafoaaOp
import Derived.Test.YtimjkkamfgafoaaRows
import Derived.Deep.CutRange
set_option linter.unusedVariables false
set_option linter.unusedSimpArgs false
namespace Go.Proofs.Ytimjkkamfgafoaa
open Go.RowKit
namespace lawNews
open Go.ChangeShapes Go.WideShapes Go.ChangeAt Go.RowKit Go.Joins
set_option maxRecDepth 100000 in
set_option maxHeartbeats 8000000 in
theorem walk (a0 a1 : Int) (w : World) (b0 : I64 a0) (b1 : I64 a1) : Calls Try.prog 3 #[.int .i64 a0, .int .i64 a1] w fun e w' => e = .returned (.bool true) ∧ Below w.heap.size w w' := by
  by_cases h : 1 ≤ a0
  · have N1 := fun W => hide (new_t a0 W h b0.2)
    have N2 := fun W => hide (rnew_t a0 W h b0.2)
    have B1 := hide b1
    clear h b0 b1
    go_enter Try.func3, Try.ntmps3
    go_wp2_with fail
    refine (N1 _).out.mono ?_
    rintro e w1 ⟨rfl, C, k1⟩
    have HC := hide C
    have K1 := hide k1
    clear C k1 N1
    go_wp2_with fail
    refine (N2 _).out.mono ?_
    rintro e w2 ⟨rfl, G, k2⟩
    have A := hide (agree_t (HC.out.below k2 HC.out.lt) G a1 B1.out)
    have K2 := hide (K1.out.trans (k2.mono K1.out.size))
    clear G k2 N2 HC K1
    go_wp2_with fail
    refine A.out.mono ?_
    rintro e w3 ⟨rfl, bb⟩
    have K3 := hide (K2.out.trans (bb.mono K2.out.size))
    clear bb A K2
    go_wp2_with fail
    refine (works _).mono ?_
    rintro e w4 ⟨rfl, bb⟩
    have K4 := hide (K3.out.trans (bb.mono K3.out.size))
    clear bb K3
    go_wp2_with fail
    go_ret
    exact ⟨rfl, K4.out⟩
  · have N1 := fun W => hide (new_f a0 W (by omega))
    have N2 := fun W => hide (rnew_f a0 W (by omega))
    have A := fun W => hide (agree_n W a1)
    clear h b0 b1
    go_enter Try.func3, Try.ntmps3
    go_wp2_with fail
    refine (N1 _).out.mono ?_
    rintro e w' ⟨rfl, rfl⟩
    go_wp2_with fail
    refine (N2 _).out.mono ?_
    rintro e w' ⟨rfl, rfl⟩
    go_wp2_with fail
    refine (A _).out.mono ?_
    rintro e w3 ⟨rfl, bb⟩
    have K3 := hide bb
    clear bb A
    go_wp2_with fail
    refine (works _).mono ?_
    rintro e w4 ⟨rfl, bb⟩
    have K4 := hide (K3.out.trans (bb.mono K3.out.size))
    clear bb K3
    go_wp2_with fail
    go_ret
    exact ⟨rfl, K4.out⟩
theorem own : ownKnob Try.prog.godebug = none := by kernel_rfl
theorem laidOut : laidOutB Try.prog = true := by kernel_rfl
set_option maxRecDepth 100000 in
theorem lifted (os : Os) (started : os.Started) (H : Type) (enc : TypeId × Value → H) :
    ReturnsInHanded {} Try.checked os 3 .any (Rows.clockNewsSpec.pre6 enc Try.prog Try.f3 Rows.clockNewsRow.domain false) (Rows.clockNewsSpec.post enc Try.prog Try.f3 false true false false) := by
  refine returnsInHanded_of_change (C := Try.checked) own started (by kernel_rfl) Try.func3
    (ChangeSpec.witness6 (enc := enc) (C := Try.checked) false ⟨#[], #[.int .i64 0, .int .i64 0], []⟩ 8 (by kernel_rfl) (by kernel_rfl) (by kernel_rfl) (by kernel_rfl)) ?_
  intro W base args ds gs before hval0 hW hcnd _
  have hval : ∀ (j : Nat) t v, Try.f3.params[j]? = some t → args[j]? = some v → Value.okWide Try.prog W .any base t v := hval0
  have hW' := hW
  obtain ⟨p, q, hA0, hV, rfl, hfz, hnd⟩ := hW
  have hA : DataW.TrodAll enc Try.prog W 0 (fun _ => true) true Try.f3.params.toList args.toList ds p := hA0
  rw [Try.params3] at hA hval
  obtain ⟨v0, vs0, d0, ds0, p0, q0, hargs, rfl, rfl, h0, r0⟩ := trodAll_cons hA
  obtain ⟨v1, vs1, d1, ds1, p1, q1, rfl, rfl, rfl, h1, r1⟩ := trodAll_cons r0
  obtain ⟨rfl, rfl, rfl⟩ := trodAll_nil r1
  obtain rfl : args = #[v0, v1] := by cases args; simp_all
  obtain ⟨rfl, rfl⟩ := trodVars_none hV
  have k0 := h0
  have lt0 : ∀ x ∈ p0, x.block < W.heap.size := by obtain ⟨m, hm⟩ := k0; exact DataW.trod_lt m _ _ _ hm
  have k1 := h1
  have lt1 : ∀ x ∈ p1, x.block < W.heap.size := by obtain ⟨m, hm⟩ := k1; exact DataW.trod_lt m _ _ _ hm
  obtain ⟨a0, rfl, _, _, w0⟩ := open_int Try.underlying2 (hval 0 2 v0 rfl rfl) h0
  obtain ⟨a1, rfl, _, _, w1⟩ := open_int Try.underlying2 (hval 1 2 v1 rfl rfl) h1
  clear hA0 hval0
  refine (walk a0 a1 W (bounds_i64 w0) (bounds_i64 w1)).mono fun e W' ⟨he, bel⟩ => ?_
  subst he
  exact ⟨_, rfl, _, _, _, [], _, [], hW', trodAll_mk1 (shut_bool Try.underlying4 _), (trodAll_cons_mk (Below.trod laidOut (by kernel_rfl) (of_decide_eq_true (by kernel_rfl)) k0 bel lt0) (trodAll_cons_mk (Below.trod laidOut (by kernel_rfl) (of_decide_eq_true (by kernel_rfl)) k1 bel lt1) trodAll_mk0)), rfl, bel.frame _, fun h => by cases h⟩
theorem holds : Rows.clockNewsRow.holds Try.pinned (OpenSpec.ofChange Rows.clockNewsSpec) :=
  OpenClaim.holds_of_wide 3 Try.f3 rfl rfl rfl rfl rfl rfl rfl ⟨rfl, rfl, rfl, rfl, rfl⟩ rfl rfl rfl rfl rfl (by kernel_rfl) Try.func3 (by kernel_rfl)
    (of_decide_eq_true (by kernel_rfl)) (by unfold Func.isWrapper; first | (rw [if_pos (by decide +kernel)]; kernel_rfl) | (rw [if_neg (by decide +kernel)]; exact ⟨rfl, rfl⟩))
    (fun os started H enc _ => lifted os started H enc)
theorem proved : Rows.ClockNewsSaid := holds
end lawNews
end Go.Proofs.Ytimjkkamfgafoaa
