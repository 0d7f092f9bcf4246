/- FenwickNews holds: New returns counters that are 0, or ErrArg, as the document says. -/
import Derived.Test.YtgcnccfmfnifbaaFE
import Derived.Test.YtgcnccfmfnifbaaOp
import Derived.Test.YtgcnccfmfnifbaaRows
import Derived.Deep.CutRange
import Derived.StillTailTactics
set_option linter.unusedVariables false
set_option linter.unusedSimpArgs false
namespace Go.Proofs.Ytgcnccfmfnifbaa
open Go.RowKit
namespace lawNews
open Go.ChangeShapes Go.WideShapes Go.ChangeAt Go.RowKit Go.Joins
set_option maxRecDepth 100000 in
set_option maxHeartbeats 8000000 in
theorem walk (a0 : Int) (z1_0 : Int) (z1_1 : Int) (z1_2 : Int) (z1_3 : Int) (z1_4 : Int) (z1_5 : Int) (w : World) (b0 : -9223372036854775808 ≤ a0 ∧ a0 ≤ 9223372036854775807) (b1_0 : -9223372036854775808 ≤ z1_0 ∧ z1_0 ≤ 9223372036854775807) (b1_1 : -9223372036854775808 ≤ z1_1 ∧ z1_1 ≤ 9223372036854775807) (b1_2 : -9223372036854775808 ≤ z1_2 ∧ z1_2 ≤ 9223372036854775807) (b1_3 : -9223372036854775808 ≤ z1_3 ∧ z1_3 ≤ 9223372036854775807) (b1_4 : -9223372036854775808 ≤ z1_4 ∧ z1_4 ≤ 9223372036854775807) (b1_5 : -9223372036854775808 ≤ z1_5 ∧ z1_5 ≤ 9223372036854775807) : Calls Try.prog 3 #[.int .i64 a0, .agg #[.int .i64 z1_0, .int .i64 z1_1, .int .i64 z1_2, .int .i64 z1_3, .int .i64 z1_4, .int .i64 z1_5]] w fun e w' => e = .returned (.bool true) ∧ Below w.heap.size w w' := by
  have WK := hide works_t
  have H5 := hide b1_5.2
  clear b0 b1_0 b1_1 b1_2 b1_3 b1_4 b1_5
  have K1 := hide (Kp.alloc w (.cells #[.int .i64 z1_0, .int .i64 z1_1, .int .i64 z1_2, .int .i64 z1_3, .int .i64 z1_4, .int .i64 z1_5] 23))
  have HX := hide (heap_alloc_new w (.cells #[.int .i64 z1_0, .int .i64 z1_1, .int .i64 z1_2, .int .i64 z1_3, .int .i64 z1_4, .int .i64 z1_5] 23))
  obtain ⟨w1, hw1⟩ : ∃ w1, w1 = w.alloc (.cells #[.int .i64 z1_0, .int .i64 z1_1, .int .i64 z1_2, .int .i64 z1_3, .int .i64 z1_4, .int .i64 z1_5] 23) := ⟨_, rfl⟩
  rw [← hw1] at K1 HX
  have CX : ∀ x, x = w.heap.size → Hid (∀ V, Kp [] w1 V → V.cell? ⟨x, 0, none⟩ = some (.int .i64 z1_0) ∧ V.cell? ⟨x, 1, none⟩ = some (.int .i64 z1_1) ∧ V.cell? ⟨x, 2, none⟩ = some (.int .i64 z1_2) ∧ V.cell? ⟨x, 3, none⟩ = some (.int .i64 z1_3) ∧ V.cell? ⟨x, 4, none⟩ = some (.int .i64 z1_4) ∧ V.cell? ⟨x, 5, none⟩ = some (.int .i64 z1_5)) := by
    rintro x rfl V kV
    simp [cell_of_blk (kV.blk HX.out (by simp))]
  by_cases hn : 0 ≤ a0 ∧ a0 ≤ 65536
  · obtain ⟨n, rfl⟩ : ∃ n : Nat, a0 = (n : Int) := ⟨a0.toNat, by omega⟩
    have NW := hide (new_t n (by omega) w1)
    have NR := hide (fun W => rnew_t n (by omega) W)
    clear hn
    go_enter Try.func3, Try.ntmps3
    go_wp2_with fail
    rw [← hw1]
    obtain ⟨x, hx⟩ : ∃ x, x = w.heap.size := ⟨_, rfl⟩
    have CX := CX x hx
    rw [← hx]
    clear hw1 hx
    refine NW.out.mono ?_
    rintro e w2 ⟨rfl, f2, k2⟩
    generalize w1.heap.size + 1 = b at *
    generalize w1.heap.size = y at *
    have F2 := hide f2
    have K2 := hide k2
    clear f2 k2 NW HX
    go_wp2_with fail
    refine (NR.out _).mono ?_
    rintro e w3 ⟨b', v, rfl, r3, k3⟩
    obtain ⟨fi, fo, g, pr, rg, t, l, HA, HR⟩ := both (F2.out.keep0 k3) r3
    have K3 := hide (K2.out.trans0 k3)
    have AG := hide (agree_t HA HR z1_0 z1_1 z1_2 z1_3 z1_4 z1_5 H5.out)
    obtain ⟨c0, c1, c2, c3, c4, c5⟩ := CX.out _ K3.out
    clear r3 k3 HA HR
    go_wp2_with fail
    refine AG.out.mono ?_
    rintro e w4 ⟨rfl, k4⟩
    have K4 := hide (K3.out.trans0 k4)
    clear c0 c1 c2 c3 c4 c5 k4
    go_wp2_with fail
    refine (WK.out _).mono ?_
    rintro e w5 ⟨rfl, k5⟩
    have K5 := hide (K1.out.trans0 (K4.out.trans0 k5))
    clear k5
    go_wp2_with fail
    go_ret
    exact ⟨rfl, K5.out.below (by simp) (Nat.le_refl _)⟩
  · have NW := hide (new_no a0 hn w1)
    have NR := hide (rnew_no a0 hn w1)
    clear hn
    go_enter Try.func3, Try.ntmps3
    go_wp2_with fail
    rw [← hw1]
    obtain ⟨x, hx⟩ : ∃ x, x = w.heap.size := ⟨_, rfl⟩
    have CX := CX x hx
    rw [← hx]
    clear hw1 hx HX
    refine NW.out.mono ?_
    rintro e w2 ⟨rfl, rfl⟩
    go_wp2_with fail
    refine NR.out.mono ?_
    rintro e w3 ⟨rfl, rfl⟩
    have AG := hide (agree_t (none_both w1).1 (none_both w1).2 z1_0 z1_1 z1_2 z1_3 z1_4 z1_5 H5.out)
    obtain ⟨c0, c1, c2, c3, c4, c5⟩ := CX.out _ (Kp.refl _ _)
    go_wp2_with fail
    refine AG.out.mono ?_
    rintro e w4 ⟨rfl, k4⟩
    have K4 := hide k4
    clear c0 c1 c2 c3 c4 c5 k4
    go_wp2_with fail
    refine (WK.out _).mono ?_
    rintro e w5 ⟨rfl, k5⟩
    have K5 := hide (K1.out.trans0 (K4.out.trans0 k5))
    clear k5
    go_wp2_with fail
    go_ret
    exact ⟨rfl, K5.out.below (by simp) (Nat.le_refl _)⟩
theorem own : ownKnob Try.prog.godebug = none := by kernel_rfl
theorem laidOut : laidOutB Try.prog = true := by kernel_rfl
set_option maxRecDepth 100000 in
theorem lifted (os : Os) (started : os.Started) (H : Type) (enc : TypeId × Value → H) :
    ReturnsInHanded {} Try.checked os 3 .any (Rows.fenwickNewsSpec.pre6 enc Try.prog Try.f3 Rows.fenwickNewsRow.domain false) (Rows.fenwickNewsSpec.post enc Try.prog Try.f3 false true false false) := by
  refine returnsInHanded_of_change (C := Try.checked) own started (by kernel_rfl) Try.func3
    (ChangeSpec.witness6 (enc := enc) (C := Try.checked) false ⟨#[], #[.int .i64 0, .agg #[.int .i64 0, .int .i64 0, .int .i64 0, .int .i64 0, .int .i64 0, .int .i64 0]], []⟩ 8 (by kernel_rfl) (by kernel_rfl) (by kernel_rfl) (by kernel_rfl)) ?_
  intro W base args ds gs before hval0 hW hcnd _
  have hval : ∀ (j : Nat) t v, Try.f3.params[j]? = some t → args[j]? = some v → Value.okWide Try.prog W .any base t v := hval0
  have hW' := hW
  obtain ⟨p, q, hA0, hV, rfl, hfz, hnd⟩ := hW
  have hA : DataW.TrodAll enc Try.prog W 0 (fun _ => true) true Try.f3.params.toList args.toList ds p := hA0
  rw [Try.params3] at hA hval
  obtain ⟨v0, vs0, d0, ds0, p0, q0, hargs, rfl, rfl, h0, r0⟩ := trodAll_cons hA
  obtain ⟨v1, vs1, d1, ds1, p1, q1, rfl, rfl, rfl, h1, r1⟩ := trodAll_cons r0
  obtain ⟨rfl, rfl, rfl⟩ := trodAll_nil r1
  obtain rfl : args = #[v0, v1] := by cases args; simp_all
  obtain ⟨rfl, rfl⟩ := trodVars_none hV
  have k0 := h0
  have lt0 : ∀ x ∈ p0, x.block < W.heap.size := by obtain ⟨m, hm⟩ := k0; exact DataW.trod_lt m _ _ _ hm
  have k1 := h1
  have lt1 : ∀ x ∈ p1, x.block < W.heap.size := by obtain ⟨m, hm⟩ := k1; exact DataW.trod_lt m _ _ _ hm
  obtain ⟨a0, rfl, _, _, w0⟩ := open_int Try.underlying3 (hval 0 3 v0 rfl rfl) h0
  obtain ⟨Z1, rfl, w1⟩ := agg_in (flat_struct (ks := [.i64, .i64, .i64, .i64, .i64, .i64]) Try.underlying23 (by kernel_rfl) (by kernel_rfl)) (okWide_struct Try.underlying23 (hval 1 23 v1 rfl rfl)) h1
  clear hA0 hval0
  refine (walk a0 (Z1 0) (Z1 1) (Z1 2) (Z1 3) (Z1 4) (Z1 5) W (bounds_i64 w0) (bounds_i64 (w1 0 _ rfl)) (bounds_i64 (w1 1 _ rfl)) (bounds_i64 (w1 2 _ rfl)) (bounds_i64 (w1 3 _ rfl)) (bounds_i64 (w1 4 _ rfl)) (bounds_i64 (w1 5 _ rfl))).mono fun e W' ⟨he, bel⟩ => ?_
  subst he
  exact ⟨_, rfl, _, _, _, [], _, [], hW', trodAll_mk1 (shut_bool Try.underlying4 _), (trodAll_cons_mk (Below.trod laidOut (by kernel_rfl) (of_decide_eq_true (by kernel_rfl)) k0 bel lt0) (trodAll_cons_mk (Below.trod laidOut (by kernel_rfl) (of_decide_eq_true (by kernel_rfl)) k1 bel lt1) trodAll_mk0)), rfl, bel.frame _, fun h => by cases h⟩
theorem holds : Rows.fenwickNewsRow.holds Try.pinned (OpenSpec.ofChange Rows.fenwickNewsSpec) :=
  OpenClaim.holds_of_wide 3 Try.f3 rfl rfl rfl rfl rfl rfl rfl ⟨rfl, rfl, rfl, rfl, rfl⟩ rfl rfl rfl rfl rfl (by kernel_rfl) Try.func3 (by kernel_rfl)
    (of_decide_eq_true (by kernel_rfl)) (by unfold Func.isWrapper; first | (rw [if_pos (by decide +kernel)]; kernel_rfl) | (rw [if_neg (by decide +kernel)]; exact ⟨rfl, rfl⟩))
    (fun os started H enc _ => lifted os started H enc)
theorem proved : Rows.FenwickNewsSaid := holds
end lawNews
end Go.Proofs.Ytgcnccfmfnifbaa
