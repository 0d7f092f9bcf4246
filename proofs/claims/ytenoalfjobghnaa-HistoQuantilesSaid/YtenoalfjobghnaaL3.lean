/- HistoQuantiles holds: quantiles are those of the document. -/
import Derived.Test.YtenoalfjobghnaaHW
import Derived.Test.YtenoalfjobghnaaOp
import Derived.Test.YtenoalfjobghnaaRows
import Derived.Deep.CutRange
import Derived.StillTailTactics
set_option linter.unusedVariables false
set_option linter.unusedSimpArgs false
namespace Go.Proofs.Ytenoalfjobghnaa
open Go.RowKit
namespace lawQuantiles
open Go.ChangeShapes Go.WideShapes Go.ChangeAt Go.RowKit Go.Joins
set_option maxRecDepth 100000 in
set_option maxHeartbeats 16000000 in
theorem walk (s0 : Option Addr) (len0 cap0 : Nat) (V0 : Nat → Nat → Int) (s1 : Option Addr) (len1 cap1 : Nat) (V1 : Nat → Nat → Int) (z2_0 : Int) (z2_1 : Int) (w : World) (hc0 : len0 ≤ cap0 ∧ cap0 ≤ maxLen) (hr0 : RowsI w s0 [.i64] len0 V0) (hc1 : len1 ≤ cap1 ∧ cap1 ≤ maxLen) (hr1 : RowsI w s1 [.i64, .i64] len1 V1) (b2_0 : -9223372036854775808 ≤ z2_0 ∧ z2_0 ≤ 9223372036854775807) (b2_1 : -9223372036854775808 ≤ z2_1 ∧ z2_1 ≤ 9223372036854775807) : Calls Try.prog 5 #[.slice s0 len0 cap0, .slice s1 len1 cap1, .agg #[.int .i64 z2_0, .int .i64 z2_1]] w fun e w' => e = .returned (.bool true) ∧ Below w.heap.size w w' := by
  have R := rd_of hr0
  have ST := steps_of hr1
  generalize hV : (fun i => V0 i 0) = V at R
  generalize hX : (fun i => V1 i 0) = X at ST
  generalize hT : (fun i => V1 i 1) = T at ST
  clear hr0 hr1 hV hX hT
  have HQ := hide (show I64 z2_0 ∧ I64 z2_1 from ⟨b2_0, b2_1⟩)
  clear b2_0 b2_1
  have KZ := hide (Kp.alloc (o := []) w (.cells #[.int .i64 z2_0, .int .i64 z2_1] 39))
  by_cases hl0 : 200 < len0
  · have d0 : decide ((200 : Int) < (len0 : Int)) = true := by simp; omega
    have d0' : decide (200 < len0) = true := by simp; omega
    clear R ST hl0 hc0 hc1
    go_enter Try.func5, Try.ntmps5
    go_wp2_with fail
    refine (works _).mono ?_
    rintro e w2 ⟨rfl, bw⟩
    have HW := hide bw
    clear bw
    go_wp2_with fail
    go_ret
    exact ⟨rfl, (KZ.out.below (by simp) (Nat.le_refl _)).trans (HW.out.mono KZ.out.size)⟩
  have d0 : decide ((200 : Int) < (len0 : Int)) = false := by simp; omega
  have d0' : decide (200 < len0) = false := by simp; omega
  by_cases hl1 : 200 < len1
  · have d1 : decide ((200 : Int) < (len1 : Int)) = true := by simp; omega
    have d1' : decide (200 < len1) = true := by simp; omega
    clear R ST hl0 hl1 hc0 hc1
    go_enter Try.func5, Try.ntmps5
    go_wp2_with fail
    refine (works _).mono ?_
    rintro e w2 ⟨rfl, bw⟩
    have HW := hide bw
    clear bw
    go_wp2_with fail
    go_ret
    exact ⟨rfl, (KZ.out.below (by simp) (Nat.le_refl _)).trans (HW.out.mono KZ.out.size)⟩
  have d1 : decide ((200 : Int) < (len1 : Int)) = false := by simp; omega
  have d1' : decide (200 < len1) = false := by simp; omega
  have HL0 := hide hl0
  have HL1 := hide hl1
  have BZ : Hid ((w.alloc (.cells #[.int .i64 z2_0, .int .i64 z2_1] 39)).heap[w.heap.size]? = some (.cells #[.int .i64 z2_0, .int .i64 z2_1] 39 (0, 0))) := heap_alloc_new _ _
  have N := hide (filled_t (cap0 := cap0) (cap1 := cap1) (R.below KZ.out) (ST.below KZ.out) (by omega))
  clear R ST hl0 hl1 hc0 hc1
  go_enter Try.func5, Try.ntmps5
  go_wp2_with fail
  refine N.out.mono ?_
  rintro e w1 ⟨ok, a, b, p, q, C, rfl, g, r, _, k⟩
  have G := hide g
  have R := hide r
  have K1 := hide (KZ.out.trans0 k)
  have B1 := hide (k.blk BZ.out (by simp))
  obtain ⟨bz, hbz⟩ : ∃ b, b = w.heap.size := ⟨_, rfl⟩
  rw [← hbz] at B1 ⊢
  clear hbz BZ N g r k
  have z0 : w1.cell? ⟨bz, 0, none⟩ = some (.int .i64 z2_0) := by simp [cell_of_blk B1.out]
  have z1 : w1.cell? ⟨bz, 1, none⟩ = some (.int .i64 z2_1) := by simp [cell_of_blk B1.out]
  have Q1 := hide (quantile_b G.out z2_0 z2_1 HQ.out.1 HQ.out.2)
  go_wp2_with fail
  refine Q1.out.mono ?_
  rintro e w2 ⟨v, er, rfl, qr, k2⟩
  have QRR := hide qr
  have K2 := hide (K1.out.trans0 k2)
  have B2 := hide (k2.blk B1.out (by simp))
  have y0 : w2.cell? ⟨bz, 0, none⟩ = some (.int .i64 z2_0) := by simp [cell_of_blk B2.out]
  have y1 : w2.cell? ⟨bz, 1, none⟩ = some (.int .i64 z2_1) := by simp [cell_of_blk B2.out]
  have Q2 := hide (rquantile_b (R.out.keep0 k2) z2_0 z2_1 HQ.out.1 HQ.out.2 qr)
  clear z0 z1 k2 qr Q1
  go_wp2_with fail
  refine Q2.out.mono ?_
  rintro e w3 ⟨rfl, k3⟩
  have K3 := hide (K2.out.trans0 k3)
  clear k3 y0 y1 Q2
  go_wp2_with fail
  refine (works _).mono ?_
  rintro e w4 ⟨rfl, bw⟩
  have HW := hide bw
  clear bw
  go_wp2_with fail
  go_ret
  exact ⟨rfl, (K3.out.below (by simp) (Nat.le_refl _)).trans (HW.out.mono K3.out.size)⟩
theorem own : ownKnob Try.prog.godebug = none := by kernel_rfl
theorem laidOut : laidOutB Try.prog = true := by kernel_rfl
set_option maxRecDepth 100000 in
theorem lifted (os : Os) (started : os.Started) (H : Type) (enc : TypeId × Value → H) :
    ReturnsInHanded {} Try.checked os 5 .any (Rows.histoQuantilesSpec.pre6 enc Try.prog Try.f5 Rows.histoQuantilesRow.domain false) (Rows.histoQuantilesSpec.post enc Try.prog Try.f5 false true false false) := by
  refine returnsInHanded_of_change (C := Try.checked) own started (by kernel_rfl) Try.func5
    (ChangeSpec.witness6 (enc := enc) (C := Try.checked) false ⟨#[], #[.slice none 0 0, .slice none 0 0, .agg #[.int .i64 0, .int .i64 0]], []⟩ 8 (by kernel_rfl) (by kernel_rfl) (by kernel_rfl) (by kernel_rfl)) ?_
  intro W base args ds gs before hval0 hW hcnd _
  have hval : ∀ (j : Nat) t v, Try.f5.params[j]? = some t → args[j]? = some v → Value.okWide Try.prog W .any base t v := hval0
  have hW' := hW
  obtain ⟨p, q, hA0, hV, rfl, hfz, hnd⟩ := hW
  have hA : DataW.TrodAll enc Try.prog W 0 (fun _ => true) true Try.f5.params.toList args.toList ds p := hA0
  rw [Try.params5] at hA hval
  obtain ⟨v0, vs0, d0, ds0, p0, q0, hargs, rfl, rfl, h0, r0⟩ := trodAll_cons hA
  obtain ⟨v1, vs1, d1, ds1, p1, q1, rfl, rfl, rfl, h1, r1⟩ := trodAll_cons r0
  obtain ⟨v2, vs2, d2, ds2, p2, q2, rfl, rfl, rfl, h2, r2⟩ := trodAll_cons r1
  obtain ⟨rfl, rfl, rfl⟩ := trodAll_nil r2
  obtain rfl : args = #[v0, v1, v2] := by cases args; simp_all
  obtain ⟨rfl, rfl⟩ := trodVars_none hV
  have k0 := h0
  have lt0 : ∀ x ∈ p0, x.block < W.heap.size := by obtain ⟨m, hm⟩ := k0; exact DataW.trod_lt m _ _ _ hm
  have k1 := h1
  have lt1 : ∀ x ∈ p1, x.block < W.heap.size := by obtain ⟨m, hm⟩ := k1; exact DataW.trod_lt m _ _ _ hm
  have k2 := h2
  have lt2 : ∀ x ∈ p2, x.block < W.heap.size := by obtain ⟨m, hm⟩ := k2; exact DataW.trod_lt m _ _ _ hm
  obtain ⟨s0, len0, cap0, rfl⟩ := okWide_slice Try.underlying22 (hval 0 22 v0 rfl rfl)
  obtain ⟨V0, hc0, hr0⟩ := rows_in Try.underlying22 (flat_int Try.underlying2 (by kernel_rfl)) (by decide) h0
  obtain ⟨s1, len1, cap1, rfl⟩ := okWide_slice Try.underlying33 (hval 1 33 v1 rfl rfl)
  obtain ⟨V1, hc1, hr1⟩ := rows_in Try.underlying33 (flat_struct (ks := [.i64, .i64]) Try.underlying36 (by kernel_rfl) (by kernel_rfl)) (by decide) h1
  obtain ⟨Z2, rfl, w2⟩ := agg_in (flat_array Try.underlying39 Try.underlying2 (by kernel_rfl) (by kernel_rfl) : FlatI Try.prog 39 [.i64, .i64]) (okWide_arr Try.underlying39 (hval 2 39 v2 rfl rfl)) h2
  clear hA0 hval0
  refine (walk s0 len0 cap0 V0 s1 len1 cap1 V1 (Z2 0) (Z2 1) W hc0 hr0 hc1 hr1 (bounds_i64 (w2 0 _ rfl)) (bounds_i64 (w2 1 _ rfl))).mono fun e W' ⟨he, bel⟩ => ?_
  subst he
  exact ⟨_, rfl, _, _, _, [], _, [], hW', trodAll_mk1 (shut_bool Try.underlying4 _), (trodAll_cons_mk (Below.trod laidOut (by kernel_rfl) (of_decide_eq_true (by kernel_rfl)) k0 bel lt0) (trodAll_cons_mk (Below.trod laidOut (by kernel_rfl) (of_decide_eq_true (by kernel_rfl)) k1 bel lt1) (trodAll_cons_mk (Below.trod laidOut (by kernel_rfl) (of_decide_eq_true (by kernel_rfl)) k2 bel lt2) trodAll_mk0))), rfl, bel.frame _, fun h => by cases h⟩
theorem holds : Rows.histoQuantilesRow.holds Try.pinned (OpenSpec.ofChange Rows.histoQuantilesSpec) :=
  OpenClaim.holds_of_wide 5 Try.f5 rfl rfl rfl rfl rfl rfl rfl ⟨rfl, rfl, rfl, rfl, rfl⟩ rfl rfl rfl rfl rfl (by kernel_rfl) Try.func5 (by kernel_rfl)
    (of_decide_eq_true (by kernel_rfl)) (by unfold Func.isWrapper; first | (rw [if_pos (by decide +kernel)]; kernel_rfl) | (rw [if_neg (by decide +kernel)]; exact ⟨rfl, rfl⟩))
    (fun os started H enc _ => lifted os started H enc)
theorem proved : Rows.HistoQuantilesSaid := holds
end lawQuantiles
end Go.Proofs.Ytenoalfjobghnaa
