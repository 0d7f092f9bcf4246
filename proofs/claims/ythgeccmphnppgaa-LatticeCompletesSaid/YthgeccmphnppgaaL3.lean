/- LatticeCompletes: the law answers true at every number: complete graphs are those of the specification. -/
import Derived.Test.YthgeccmphnppgaaJ
import Derived.Test.YthgeccmphnppgaaOp
import Derived.Test.YthgeccmphnppgaaRows
import Derived.Deep.CutRange
set_option linter.unusedVariables false
set_option linter.unusedSimpArgs false
namespace Go.Proofs.Ythgeccmphnppgaa
open Go.RowKit
theorem compR_len (n : Int) : (compR n).2.length ≤ 1000000 := by
  unfold compR
  split
  · simp
  · split
    · simp
    · rename_i h1 h2
      have := compE_len n.toNat n.toNat
      have hb : n ≤ 182 := by
        by_cases hb : n ≤ 182
        · exact hb
        · have h3 : 183 * (n - 1) ≤ n * (n - 1) := Int.mul_le_mul_of_nonneg_right (by omega) (by omega)
          omega
      have hm : n.toNat * n.toNat ≤ 182 * 182 := Nat.mul_le_mul (by omega) (by omega)
      show (compE n.toNat n.toNat).length ≤ 1000000
      omega
namespace lawCompletes
open Go.ChangeShapes Go.WideShapes Go.ChangeAt Go.RowKit Go.Joins
set_option maxRecDepth 100000 in
set_option maxHeartbeats 8000000 in
theorem walk (a0 : Int) (w : World) (b0 : -9223372036854775808 ≤ a0 ∧ a0 ≤ 9223372036854775807) : Calls Try.prog 6 #[.int .i64 a0] w fun e w' => e = .returned (.bool true) ∧ Below w.heap.size w w' := by
  have S1 := hide (comp_22 a0 b0 w)
  have S2 := fun W => hide (comp_23 a0 b0 W)
  have LE := hide (compR_len a0)
  clear b0
  generalize compR a0 = r at *
  obtain ⟨r2, r3⟩ := r
  go_enter Try.func6, Try.ntmps6
  go_wp2_with fail
  refine S1.out.mono ?_
  rintro e w1 ⟨v1, rfl, rd1, bw1⟩
  obtain ⟨p1, c1, hv1⟩ := rd1.slice
  subst hv1
  have R1 := hide rd1
  have B1 := hide bw1
  have T2 := hide (S2 w1).out
  clear rd1 bw1 S1 S2
  go_wp2_with fail
  refine T2.out.mono ?_
  rintro e w2 ⟨v2, rfl, rd2, bw2⟩
  obtain ⟨p2, c2, hv2⟩ := rd2.slice
  subst hv2
  have SE := hide (same_e w2 _ _ r3 (R1.out.keep bw2) rd2 LE.out)
  have B2 := hide (B1.out.trans (bw2.mono B1.out.size))
  clear rd2 bw2 T2 R1 B1
  go_wp2_with fail
  refine SE.out.mono ?_
  rintro e w3 ⟨rfl, bw3⟩
  have B3 := hide (B2.out.trans (bw3.mono B2.out.size))
  clear bw3 SE B2
  go_wp2_with fail
  refine (works _).mono ?_
  rintro e w4 ⟨rfl, bw4⟩
  have B4 := hide (B3.out.trans (bw4.mono B3.out.size))
  clear bw4 B3
  go_wp2_with fail
  go_ret
  exact ⟨rfl, B4.out⟩
theorem own : ownKnob Try.prog.godebug = none := by kernel_rfl
theorem laidOut : laidOutB Try.prog = true := by kernel_rfl
set_option maxRecDepth 100000 in
theorem lifted (os : Os) (started : os.Started) (H : Type) (enc : TypeId × Value → H) :
    ReturnsInHanded {} Try.checked os 6 .any (Rows.latticeCompletesSpec.pre6 enc Try.prog Try.f6 Rows.latticeCompletesRow.domain false) (Rows.latticeCompletesSpec.post enc Try.prog Try.f6 false true false false) := by
  refine returnsInHanded_of_change (C := Try.checked) own started (by kernel_rfl) Try.func6
    (ChangeSpec.witness6 (enc := enc) (C := Try.checked) false ⟨#[], #[.int .i64 0], []⟩ 8 (by kernel_rfl) (by kernel_rfl) (by kernel_rfl) (by kernel_rfl)) ?_
  intro W base args ds gs before hval0 hW hcnd _
  have hval : ∀ (j : Nat) t v, Try.f6.params[j]? = some t → args[j]? = some v → Value.okWide Try.prog W .any base t v := hval0
  have hW' := hW
  obtain ⟨p, q, hA0, hV, rfl, hfz, hnd⟩ := hW
  have hA : DataW.TrodAll enc Try.prog W 0 (fun _ => true) true Try.f6.params.toList args.toList ds p := hA0
  rw [Try.params6] at hA hval
  obtain ⟨v0, vs0, d0, ds0, p0, q0, hargs, rfl, rfl, h0, r0⟩ := trodAll_cons hA
  obtain ⟨rfl, rfl, rfl⟩ := trodAll_nil r0
  obtain rfl : args = #[v0] := by cases args; simp_all
  obtain ⟨rfl, rfl⟩ := trodVars_none hV
  have k0 := h0
  have lt0 : ∀ x ∈ p0, x.block < W.heap.size := by obtain ⟨m, hm⟩ := k0; exact DataW.trod_lt m _ _ _ hm
  obtain ⟨a0, rfl, _, _, w0⟩ := open_int Try.underlying3 (hval 0 3 v0 rfl rfl) h0
  clear hA0 hval0
  refine (walk a0 W (bounds_i64 w0)).mono fun e W' ⟨he, bel⟩ => ?_
  subst he
  exact ⟨_, rfl, _, _, _, [], _, [], hW', trodAll_mk1 (shut_bool Try.underlying4 _), (trodAll_cons_mk (Below.trod laidOut (by kernel_rfl) (of_decide_eq_true (by kernel_rfl)) k0 bel lt0) trodAll_mk0), rfl, bel.frame _, fun h => by cases h⟩
theorem holds : Rows.latticeCompletesRow.holds Try.pinned (OpenSpec.ofChange Rows.latticeCompletesSpec) :=
  OpenClaim.holds_of_wide 6 Try.f6 rfl rfl rfl rfl rfl rfl rfl ⟨rfl, rfl, rfl, rfl, rfl⟩ rfl rfl rfl rfl rfl (by kernel_rfl) Try.func6 (by kernel_rfl)
    (of_decide_eq_true (by kernel_rfl)) (by unfold Func.isWrapper; first | (rw [if_pos (by decide +kernel)]; kernel_rfl) | (rw [if_neg (by decide +kernel)]; exact ⟨rfl, rfl⟩))
    (fun os started H enc _ => lifted os started H enc)
theorem proved : Rows.LatticeCompletesSaid := holds
end lawCompletes
end Go.Proofs.Ythgeccmphnppgaa
