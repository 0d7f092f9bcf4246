/- HistoCoarse holds: a histogram without one bound is the document's, and the histogram itself stays. -/
import Derived.Test.YtenoalfjobghnaaHZ
import Derived.Test.YtenoalfjobghnaaOp
import Derived.Test.YtenoalfjobghnaaRows
import Derived.Deep.CutRange
import Derived.StillTailTactics
set_option linter.unusedVariables false
set_option linter.unusedSimpArgs false
namespace Go.Proofs.Ytenoalfjobghnaa
open Go.RowKit
namespace lawCoarse
open Go.ChangeShapes Go.WideShapes Go.ChangeAt Go.RowKit Go.Joins
set_option maxRecDepth 100000 in
set_option maxHeartbeats 16000000 in
theorem walk (s0 : Option Addr) (len0 cap0 : Nat) (V0 : Nat → Nat → Int) (s1 : Option Addr) (len1 cap1 : Nat) (V1 : Nat → Nat → Int) (a2 : Int) (w : World) (hc0 : len0 ≤ cap0 ∧ cap0 ≤ maxLen) (hr0 : RowsI w s0 [.i64] len0 V0) (hc1 : len1 ≤ cap1 ∧ cap1 ≤ maxLen) (hr1 : RowsI w s1 [.i64, .i64] len1 V1) (b2 : -9223372036854775808 ≤ a2 ∧ a2 ≤ 9223372036854775807) : Calls Try.prog 7 #[.slice s0 len0 cap0, .slice s1 len1 cap1, .int .i64 a2] w fun e w' => e = .returned (.bool true) ∧ Below w.heap.size w w' := by
  have R := rd_of hr0
  have ST := steps_of hr1
  generalize hV : (fun i => V0 i 0) = V at R
  generalize hX : (fun i => V1 i 0) = X at ST
  generalize hT : (fun i => V1 i 1) = T at ST
  clear hr0 hr1 hV hX hT b2
  by_cases hl0 : 200 < len0
  · have d0 : decide ((200 : Int) < (len0 : Int)) = true := by simp; omega
    have d0' : decide (200 < len0) = true := by simp; omega
    clear R ST hl0 hc0 hc1
    go_enter Try.func7, Try.ntmps7
    go_wp2_with fail
    refine (works _).mono ?_
    rintro e w2 ⟨rfl, bw⟩
    have HW := hide bw
    clear bw
    go_wp2_with fail
    go_ret
    exact ⟨rfl, HW.out⟩
  have d0 : decide ((200 : Int) < (len0 : Int)) = false := by simp; omega
  have d0' : decide (200 < len0) = false := by simp; omega
  by_cases hl1 : 200 < len1
  · have d1 : decide ((200 : Int) < (len1 : Int)) = true := by simp; omega
    have d1' : decide (200 < len1) = true := by simp; omega
    clear R ST hl0 hl1 hc0 hc1
    go_enter Try.func7, Try.ntmps7
    go_wp2_with fail
    refine (works _).mono ?_
    rintro e w2 ⟨rfl, bw⟩
    have HW := hide bw
    clear bw
    go_wp2_with fail
    go_ret
    exact ⟨rfl, HW.out⟩
  have d1 : decide ((200 : Int) < (len1 : Int)) = false := by simp; omega
  have d1' : decide (200 < len1) = false := by simp; omega
  have HL0 := hide hl0
  have HL1 := hide hl1
  have N := hide (filled_t (cap0 := cap0) (cap1 := cap1) R ST (by omega))
  clear R ST hl0 hl1 hc0 hc1
  go_enter Try.func7, Try.ntmps7
  go_wp2_with fail
  refine N.out.mono ?_
  rintro e w1 ⟨ok, a, b, p, q, C, rfl, g, r, _, k⟩
  have K1 := hide k
  clear k N
  rcases g with ⟨hok, rfl, g⟩ | ⟨hok, rfl⟩
  · rcases r with ⟨_, rfl, r⟩ | ⟨h, _⟩
    case inr => rw [hok] at h; cases h
    have G := hide g
    have R := hide r
    clear g r hok
    unfold ptr
    by_cases no : a2 < 0 ∨ (len0 : Int) ≤ a2
    · have Q1 := hide (coarse_e G.out.M a2 no)
      have Q2 := hide (rcoarse_e R.out.M a2 no)
      have A0 := hide (agree_n w1 0)
      clear no
      go_wp2_with fail
      refine Q1.out.mono ?_
      rintro e w' ⟨rfl, rfl⟩
      go_wp2_with fail
      refine Q2.out.mono ?_
      rintro e w' ⟨rfl, rfl⟩
      go_wp2_with fail
      refine A0.out.mono ?_
      rintro e w2 ⟨rfl, k2⟩
      have K2 := hide (K1.out.trans0 k2)
      have A1 := hide (agree_t (G.out.keep0 k2) (R.out.keep0 k2) 0)
      unfold ptr at A1
      clear k2 A0 Q1 Q2
      go_wp2_with fail
      refine A1.out.mono ?_
      rintro e w3 ⟨rfl, k3⟩
      have K3 := hide (K2.out.trans0 k3)
      clear k3 A1
      go_wp2_with fail
      refine (works _).mono ?_
      rintro e w9 ⟨rfl, bw⟩
      have HW := hide bw
      clear bw
      go_wp2_with fail
      go_ret
      exact ⟨rfl, (K3.out.below (by simp) (Nat.le_refl _)).trans (HW.out.mono K3.out.size)⟩
    · obtain ⟨i, rfl⟩ := Int.eq_ofNat_of_zero_le (show 0 ≤ a2 by omega)
      have hi : i < len0 := by omega
      have Q1 := hide (coarse_t G.out i hi)
      have Q2 := hide (fun W (k : Kp [] w1 W) => rcoarse_t (R.out.keep0 k) i hi)
      clear no hi
      go_wp2_with fail
      refine Q1.out.mono ?_
      rintro e w2 ⟨ic, rfl, g2, k2⟩
      have G2 := hide (G.out.keep0 k2)
      have R2 := hide (R.out.keep0 k2)
      have D2 := hide g2
      have K2 := hide (K1.out.trans0 k2)
      have Q3 := hide (Q2.out _ k2)
      clear g2 k2 Q1 Q2 G R
      go_wp2_with fail
      refine Q3.out.mono ?_
      rintro e w3 ⟨id', rfl, g3, k3⟩
      have G3 := hide (G2.out.keep0 k3)
      have R3 := hide (R2.out.keep0 k3)
      have K3 := hide (K2.out.trans0 k3)
      have A0 := hide (agree_t (D2.out.keep0 k3) g3 0)
      unfold ptr at A0
      clear g3 k3 Q3 G2 R2 D2
      go_wp2_with fail
      refine A0.out.mono ?_
      rintro e w4 ⟨rfl, k4⟩
      have K4 := hide (K3.out.trans0 k4)
      have A1 := hide (agree_t (G3.out.keep0 k4) (R3.out.keep0 k4) 0)
      unfold ptr at A1
      clear k4 A0 G3 R3
      go_wp2_with fail
      refine A1.out.mono ?_
      rintro e w5 ⟨rfl, k5⟩
      have K5 := hide (K4.out.trans0 k5)
      clear k5 A1
      go_wp2_with fail
      refine (works _).mono ?_
      rintro e w9 ⟨rfl, bw⟩
      have HW := hide bw
      clear bw
      go_wp2_with fail
      go_ret
      exact ⟨rfl, (K5.out.below (by simp) (Nat.le_refl _)).trans (HW.out.mono K5.out.size)⟩
  · rcases r with ⟨h, _⟩ | ⟨_, rfl⟩
    case inl => rw [hok] at h; cases h
    have Q1 := hide (coarse_f none w1 (.inl rfl) a2)
    have Q2 := hide (rcoarse_n w1 a2)
    have A0 := hide (agree_n w1 0)
    clear hok
    go_wp2_with fail
    refine Q1.out.mono ?_
    rintro e w' ⟨rfl, rfl⟩
    go_wp2_with fail
    refine Q2.out.mono ?_
    rintro e w' ⟨rfl, rfl⟩
    go_wp2_with fail
    refine A0.out.mono ?_
    rintro e w2 ⟨rfl, k2⟩
    have K2 := hide (K1.out.trans0 k2)
    have A1 := hide (agree_n w2 0)
    clear k2 A0 Q1 Q2
    go_wp2_with fail
    refine A1.out.mono ?_
    rintro e w3 ⟨rfl, k3⟩
    have K3 := hide (K2.out.trans0 k3)
    clear k3 A1
    go_wp2_with fail
    refine (works _).mono ?_
    rintro e w9 ⟨rfl, bw⟩
    have HW := hide bw
    clear bw
    go_wp2_with fail
    go_ret
    exact ⟨rfl, (K3.out.below (by simp) (Nat.le_refl _)).trans (HW.out.mono K3.out.size)⟩
theorem own : ownKnob Try.prog.godebug = none := by kernel_rfl
theorem laidOut : laidOutB Try.prog = true := by kernel_rfl
set_option maxRecDepth 100000 in
theorem lifted (os : Os) (started : os.Started) (H : Type) (enc : TypeId × Value → H) :
    ReturnsInHanded {} Try.checked os 7 .any (Rows.histoCoarseSpec.pre6 enc Try.prog Try.f7 Rows.histoCoarseRow.domain false) (Rows.histoCoarseSpec.post enc Try.prog Try.f7 false true false false) := by
  refine returnsInHanded_of_change (C := Try.checked) own started (by kernel_rfl) Try.func7
    (ChangeSpec.witness6 (enc := enc) (C := Try.checked) false ⟨#[], #[.slice none 0 0, .slice none 0 0, .int .i64 0], []⟩ 8 (by kernel_rfl) (by kernel_rfl) (by kernel_rfl) (by kernel_rfl)) ?_
  intro W base args ds gs before hval0 hW hcnd _
  have hval : ∀ (j : Nat) t v, Try.f7.params[j]? = some t → args[j]? = some v → Value.okWide Try.prog W .any base t v := hval0
  have hW' := hW
  obtain ⟨p, q, hA0, hV, rfl, hfz, hnd⟩ := hW
  have hA : DataW.TrodAll enc Try.prog W 0 (fun _ => true) true Try.f7.params.toList args.toList ds p := hA0
  rw [Try.params7] at hA hval
  obtain ⟨v0, vs0, d0, ds0, p0, q0, hargs, rfl, rfl, h0, r0⟩ := trodAll_cons hA
  obtain ⟨v1, vs1, d1, ds1, p1, q1, rfl, rfl, rfl, h1, r1⟩ := trodAll_cons r0
  obtain ⟨v2, vs2, d2, ds2, p2, q2, rfl, rfl, rfl, h2, r2⟩ := trodAll_cons r1
  obtain ⟨rfl, rfl, rfl⟩ := trodAll_nil r2
  obtain rfl : args = #[v0, v1, v2] := by cases args; simp_all
  obtain ⟨rfl, rfl⟩ := trodVars_none hV
  have k0 := h0
  have lt0 : ∀ x ∈ p0, x.block < W.heap.size := by obtain ⟨m, hm⟩ := k0; exact DataW.trod_lt m _ _ _ hm
  have k1 := h1
  have lt1 : ∀ x ∈ p1, x.block < W.heap.size := by obtain ⟨m, hm⟩ := k1; exact DataW.trod_lt m _ _ _ hm
  have k2 := h2
  have lt2 : ∀ x ∈ p2, x.block < W.heap.size := by obtain ⟨m, hm⟩ := k2; exact DataW.trod_lt m _ _ _ hm
  obtain ⟨s0, len0, cap0, rfl⟩ := okWide_slice Try.underlying22 (hval 0 22 v0 rfl rfl)
  obtain ⟨V0, hc0, hr0⟩ := rows_in Try.underlying22 (flat_int Try.underlying2 (by kernel_rfl)) (by decide) h0
  obtain ⟨s1, len1, cap1, rfl⟩ := okWide_slice Try.underlying33 (hval 1 33 v1 rfl rfl)
  obtain ⟨V1, hc1, hr1⟩ := rows_in Try.underlying33 (flat_struct (ks := [.i64, .i64]) Try.underlying36 (by kernel_rfl) (by kernel_rfl)) (by decide) h1
  obtain ⟨a2, rfl, _, _, w2⟩ := open_int Try.underlying3 (hval 2 3 v2 rfl rfl) h2
  clear hA0 hval0
  refine (walk s0 len0 cap0 V0 s1 len1 cap1 V1 a2 W hc0 hr0 hc1 hr1 (bounds_i64 w2)).mono fun e W' ⟨he, bel⟩ => ?_
  subst he
  exact ⟨_, rfl, _, _, _, [], _, [], hW', trodAll_mk1 (shut_bool Try.underlying4 _), (trodAll_cons_mk (Below.trod laidOut (by kernel_rfl) (of_decide_eq_true (by kernel_rfl)) k0 bel lt0) (trodAll_cons_mk (Below.trod laidOut (by kernel_rfl) (of_decide_eq_true (by kernel_rfl)) k1 bel lt1) (trodAll_cons_mk (Below.trod laidOut (by kernel_rfl) (of_decide_eq_true (by kernel_rfl)) k2 bel lt2) trodAll_mk0))), rfl, bel.frame _, fun h => by cases h⟩
theorem holds : Rows.histoCoarseRow.holds Try.pinned (OpenSpec.ofChange Rows.histoCoarseSpec) :=
  OpenClaim.holds_of_wide 7 Try.f7 rfl rfl rfl rfl rfl rfl rfl ⟨rfl, rfl, rfl, rfl, rfl⟩ rfl rfl rfl rfl rfl (by kernel_rfl) Try.func7 (by kernel_rfl)
    (of_decide_eq_true (by kernel_rfl)) (by unfold Func.isWrapper; first | (rw [if_pos (by decide +kernel)]; kernel_rfl) | (rw [if_neg (by decide +kernel)]; exact ⟨rfl, rfl⟩))
    (fun os started H enc _ => lifted os started H enc)
theorem proved : Rows.HistoCoarseSaid := holds
end lawCoarse
end Go.Proofs.Ytenoalfjobghnaa
