/- HistoTotals holds: the counts add up to the total, which is the sum of what was counted, without what was refused. -/
import Derived.Test.YtenoalfjobghnaaHO
import Derived.Test.YtenoalfjobghnaaOp
import Derived.Test.YtenoalfjobghnaaRows
import Derived.Deep.CutRange
set_option linter.unusedVariables false
set_option linter.unusedSimpArgs false
namespace Go.Proofs.Ytenoalfjobghnaa
open Go.RowKit
namespace lawTotals
open Go.ChangeShapes Go.WideShapes Go.ChangeAt Go.RowKit Go.Joins
set_option maxRecDepth 100000 in
set_option maxHeartbeats 16000000 in
theorem walk (s0 : Option Addr) (len0 cap0 : Nat) (V0 : Nat → Nat → Int) (s1 : Option Addr) (len1 cap1 : Nat) (V1 : Nat → Nat → Int) (w : World) (hc0 : len0 ≤ cap0 ∧ cap0 ≤ maxLen) (hr0 : RowsI w s0 [.i64] len0 V0) (hc1 : len1 ≤ cap1 ∧ cap1 ≤ maxLen) (hr1 : RowsI w s1 [.i64, .i64] len1 V1) : Calls Try.prog 10 #[.slice s0 len0 cap0, .slice s1 len1 cap1] w fun e w' => e = .returned (.bool true) ∧ Below w.heap.size w w' := by
  have R := rd_of hr0
  have ST := steps_of hr1
  generalize hV : (fun i => V0 i 0) = V at R
  generalize hX : (fun i => V1 i 0) = X at ST
  generalize hT : (fun i => V1 i 1) = T at ST
  clear hr0 hr1 hV hX hT
  by_cases hl0 : 200 < len0
  · have d0 : decide ((200 : Int) < (len0 : Int)) = true := by simp; omega
    have d0' : decide (200 < len0) = true := by simp; omega
    clear R ST hl0 hc0 hc1
    go_enter Try.func10, Try.ntmps10
    go_wp2_with fail
    refine (works _).mono ?_
    rintro e w2 ⟨rfl, bw⟩
    have HW := hide bw
    clear bw
    go_wp2_with fail
    go_ret
    exact ⟨rfl, HW.out⟩
  have d0 : decide ((200 : Int) < (len0 : Int)) = false := by simp; omega
  have d0' : decide (200 < len0) = false := by simp; omega
  by_cases hl1 : 200 < len1
  · have d1 : decide ((200 : Int) < (len1 : Int)) = true := by simp; omega
    have d1' : decide (200 < len1) = true := by simp; omega
    clear R ST hl0 hl1 hc0 hc1
    go_enter Try.func10, Try.ntmps10
    go_wp2_with fail
    refine (works _).mono ?_
    rintro e w2 ⟨rfl, bw⟩
    have HW := hide bw
    clear bw
    go_wp2_with fail
    go_ret
    exact ⟨rfl, HW.out⟩
  have d1 : decide ((200 : Int) < (len1 : Int)) = false := by simp; omega
  have d1' : decide (200 < len1) = false := by simp; omega
  have HL0 := hide hl0
  have HL1 := hide hl1
  by_cases inc : ¬ Inc V len0
  · have N := hide (new_e (c := cap0) R (fun h => inc h.2))
    clear R ST hl0 hl1 hc0 hc1 inc
    go_enter Try.func10, Try.ntmps10
    go_wp2_with fail
    refine N.out.mono ?_
    rintro e w1 ⟨rfl, k⟩
    have K := hide k
    clear k
    go_wp2_with fail
    refine (works _).mono ?_
    rintro e w2 ⟨rfl, bw⟩
    have HW := hide bw
    clear bw
    go_wp2_with fail
    go_ret
    exact ⟨rfl, (K.out.below (by simp) (Nat.le_refl _)).trans (HW.out.mono K.out.size)⟩
  have inc := Classical.byContradiction inc
  have N := hide (new_g (c := cap0) R (by omega) inc)
  have HST := hide ST
  clear R ST hl0 hl1 hc0 hc1 inc
  go_enter Try.func10, Try.ntmps10
  go_wp2_with fail
  refine N.out.mono ?_
  rintro e w1 ⟨b, vB, vC, rfl, G, k⟩
  have K := hide k
  have HG1 := hide G
  have HO := hide (show ∀ x ∈ HM.own b vB vC, w.heap.size ≤ x from fun x hx => (G.M.lt x hx).1)
  have z0 : sumI (fun _ => 0) (len0 + 1) = 0 := by
    have : ∀ k, sumI (fun _ => 0) k = 0 := fun k => by induction k with
      | zero => rfl
      | succ k ih => simp only [sumI, ih]; rfl
    exact this _
  have Z0 := hide z0
  clear G k N z0
  go_wp2_with fail
  go_loopw [7, 8] (fun s i wr => ∃ k : Nat, i = .int .i64 (k : Int) ∧ Hid (k ≤ len1) ∧ s = .int .i64 (sumI (addsF V len0 (fun _ => 0) X T k) (len0 + 1)) ∧ Hid (HG w.heap.size wr b vB vC len0 V (addsF V len0 (fun _ => 0) X T k)) ∧ Hid (Kp [] w wr)) (fun _ i _ => len1 - (intOf i).toNat)
  case atStart => exact ⟨0, rfl, Nat.zero_le _, by rw [show addsF V len0 (fun _ => 0) X T 0 = fun _ => 0 from rfl, Z0.out], HG1.out, K.out⟩
  case round =>
    obtain ⟨k, rfl, hk, rfl, hG, hK⟩ := hrel
    have step := show addsF V len0 (fun _ => 0) X T (k + 1) = addF V len0 (addsF V len0 (fun _ => 0) X T k) (X k) (T k) from rfl
    have STEP := hide step
    clear step
    generalize addsF V len0 (fun _ => 0) X T k = C at *
    by_cases hlt : k < len1
    · have dk : decide (k < len1) = true := by simpa using hlt
      have dk2 : decide ((k : Int) < (len1 : Int)) = true := by simpa using hlt
      have ww : IntKind.i64.wrap ((k : Int) + 1) = (k : Int) + 1 := by have := HL1.out; rw [IntKind.wrap_i64]; omega
      have b1 : (k : Int) < (len1 : Int) := by omega
      rcases HST.out with h0 | ⟨bb, off, rfl, hbb, hcc⟩
      · omega
      have q := hcc k hlt
      have CX : Hid (∀ w', Kp [] w w' → w'.cell? ⟨bb, off + k * 2, none⟩ = some (.int .i64 (X k)) ∧ w'.cell? ⟨bb, off + k * 2 + 1, none⟩ = some (.int .i64 (T k))) := by
        intro w' k'
        exact ⟨(k'.at hbb _).trans q.1, (k'.at hbb _).trans q.2.1⟩
      have IT := hide q.2.2.2
      have HLT := hide hlt
      have SUM := hide (addF_sum V len0 C (X k) (T k))
      have s1 := hG.out.top
      have s2 := sumI_nn hG.out.nn (len0 + 1) (Nat.le_refl _)
      have it := IT.out
      unfold I64 at it
      have OKE := hide (addE_ok (C := C) (m := len0) (t := T k))
      have AD := hide (hadd (hG.out.keep (Kp.drewN [] wr 1) (by simp)) (X k) (T k) IT.out)
      clear q hcc hbb hlt HST
      generalize hz : sumI C (len0 + 1) = z at *
      generalize hz' : sumI (addF V len0 C (X k) (T k)) (len0 + 1) = z' at *
      have HZ := hide hz
      have HZ' := hide hz'
      clear hz hz'
      obtain ⟨f, hf⟩ : ∃ f, f = addE C len0 (T k) := ⟨_, rfl⟩
      rw [← hf] at AD OKE
      clear hf
      generalize X k = x at *
      generalize T k = t at *
      have K0 : wr.drew.cell? ⟨bb, off + k * 2, none⟩ = some (.int .i64 x) ∧ wr.drew.cell? ⟨bb, off + k * 2 + 1, none⟩ = some (.int .i64 t) := CX.out _ (hK.out.trans0 (Kp.drewN [] _ 1))
      have okz : Hid (okA C len0 t ↔ 0 ≤ t ∧ z + t ≤ 9223372036854775807) := by unfold okA; rw [HZ.out]; exact Iff.rfl
      by_cases ok : 0 ≤ t ∧ z + t ≤ 9223372036854775807
      · have f0 : f = 0 := OKE.out.2 (okz.out.2 ok)
        subst f0
        have hz2 : z' = z + t := by have := SUM.out; rw [if_pos (okz.out.2 ok)] at this; exact this
        have HZ2 := hide hz2
        have t0 : decide (0 ≤ t) = true := by simp; omega
        have t1 : decide (t ≤ 9223372036854775807 - z) = true := by simp; omega
        have wa := hide (show IntKind.i64.wrap (z + t) = z' by rw [IntKind.wrap_i64]; omega)
        have ok1 := ok.1
        have ok2 := ok.2
        clear ok hz2
        go_wp2_with fail
        go_region_held3 (fun w' => w'.cell? ⟨bb, off + k * 2, none⟩ = some (.int .i64 x) ∧ w'.cell? ⟨bb, off + k * 2 + 1, none⟩ = some (.int .i64 t))
          (with_reducible assumption)
          (first | (go_at_call 18; refine AD.out.mono ?_; rintro e w3 ⟨rfl, g3, k3⟩; have K3 := hide (Kp.outer (hK.out.trans0 (Kp.drewN [] _ 1)) k3 HO.out); have C3 : w3.cell? ⟨bb, off + k * 2, none⟩ = some (.int .i64 x) ∧ w3.cell? ⟨bb, off + k * 2 + 1, none⟩ = some (.int .i64 t) := CX.out w3 K3.out; have G3 := hide g3; clear g3 k3))
        have c31 := C3.1
        have c32 := C3.2
        go_wp2_with fail
        go_roundw
        case rel => exact ⟨k + 1, by go_num, by have := HLT.out; show k + 1 ≤ len1; omega, by rw [STEP.out, HZ'.out, HZ2.out], by rw [STEP.out]; exact G3.out, K3.out⟩
        case measure => have := HLT.out; simp [intOf]; omega
      · have f0 : (f == 0) = false := by
          have : f ≠ 0 := fun e => ok (okz.out.1 (OKE.out.1 e))
          simpa using this
        have hz2 : z' = z := by have := SUM.out; rw [if_neg (fun h => ok (okz.out.1 h))] at this; omega
        have HZ2 := hide hz2
        clear hz2
        by_cases t0' : 0 ≤ t
        · have t0 : decide (0 ≤ t) = true := by simpa using t0'
          have t1 : decide (t ≤ 9223372036854775807 - z) = false := by simp; omega
          clear ok
          go_wp2_with fail
          go_region_held3 (fun w' => w'.cell? ⟨bb, off + k * 2, none⟩ = some (.int .i64 x) ∧ w'.cell? ⟨bb, off + k * 2 + 1, none⟩ = some (.int .i64 t))
            (with_reducible assumption)
            (first | (go_at_call 18; refine AD.out.mono ?_; rintro e w3 ⟨rfl, g3, k3⟩; have K3 := hide (Kp.outer (hK.out.trans0 (Kp.drewN [] _ 1)) k3 HO.out); have C3 : w3.cell? ⟨bb, off + k * 2, none⟩ = some (.int .i64 x) ∧ w3.cell? ⟨bb, off + k * 2 + 1, none⟩ = some (.int .i64 t) := CX.out w3 K3.out; have G3 := hide g3; clear g3 k3))
          have c31 := C3.1
          have c32 := C3.2
          go_wp2_with fail
          go_roundw
          case rel => exact ⟨k + 1, by go_num, by have := HLT.out; show k + 1 ≤ len1; omega, by rw [STEP.out, HZ'.out, HZ2.out], by rw [STEP.out]; exact G3.out, K3.out⟩
          case measure => have := HLT.out; simp [intOf]; omega
        · have t0 : decide (0 ≤ t) = false := by simpa using t0'
          clear ok
          go_wp2_with fail
          go_region_held3 (fun w' => w'.cell? ⟨bb, off + k * 2, none⟩ = some (.int .i64 x) ∧ w'.cell? ⟨bb, off + k * 2 + 1, none⟩ = some (.int .i64 t))
            (with_reducible assumption)
            (first | (go_at_call 18; refine AD.out.mono ?_; rintro e w3 ⟨rfl, g3, k3⟩; have K3 := hide (Kp.outer (hK.out.trans0 (Kp.drewN [] _ 1)) k3 HO.out); have C3 : w3.cell? ⟨bb, off + k * 2, none⟩ = some (.int .i64 x) ∧ w3.cell? ⟨bb, off + k * 2 + 1, none⟩ = some (.int .i64 t) := CX.out w3 K3.out; have G3 := hide g3; clear g3 k3))
          have c31 := C3.1
          have c32 := C3.2
          go_wp2_with fail
          go_roundw
          case rel => exact ⟨k + 1, by go_num, by have := HLT.out; show k + 1 ≤ len1; omega, by rw [STEP.out, HZ'.out, HZ2.out], by rw [STEP.out]; exact G3.out, K3.out⟩
          case measure => have := HLT.out; simp [intOf]; omega
    · have dk : decide (k < len1) = false := by simpa using hlt
      have dk2 : decide ((k : Int) < (len1 : Int)) = false := by simpa using hlt
      have CO := hide (counts_t hG.out.M hG.out.hm)
      obtain ⟨m1, hm1⟩ : ∃ m1, m1 = len0 + 1 := ⟨_, rfl⟩
      have hm2 : (len0 : Int) + 1 = (m1 : Int) := by omega
      have HM1 := hide hm1
      have NN := hide (show ∀ i, i < m1 → 0 ≤ C i by rw [hm1]; exact hG.out.nn)
      have TOP := hide (show sumI C m1 ≤ 9223372036854775807 by rw [hm1]; exact hG.out.top)
      clear STEP hlt HST
      rw [← hm1] at CO ⊢
      clear hm1
      go_wp2_with fail
      refine CO.out.mono ?_
      rintro e w3 ⟨v, rfl, r3, k3⟩
      obtain ⟨p3, d3, rfl⟩ := row_slice r3
      have HR3 := hide r3
      have K3 := hide (hK.out.trans0 k3)
      have G3 := hide (hG.out.keep k3 (by simp))
      have TT := hide (total_t G3.out.M G3.out.hm G3.out.nn G3.out.top)
      clear r3 k3 CO hG hK
      go_wp2_with fail
      go_loop [11, 13] (fun a i => ∃ j : Nat, j ≤ m1 ∧ i = .int .i64 (j : Int) ∧ a = .int .i64 (sumI C j)) (fun _ i => m1 - (intOf i).toNat)
      case atStart => exact ⟨0, Nat.zero_le _, rfl, rfl⟩
      case round =>
        obtain ⟨j, hj, rfl, rfl⟩ := hrel
        by_cases hjl : j < m1
        · have ej : decide (j < m1) = true := by simpa using hjl
          have ej2 : decide ((j : Int) < (m1 : Int)) = true := by simpa using hjl
          have wj : IntKind.i64.wrap ((j : Int) + 1) = ((j + 1 : Nat) : Int) := by have := HL0.out; have := HM1.out; rw [IntKind.wrap_i64]; omega
          have bj : (j : Int) < (m1 : Int) := by omega
          obtain ⟨g, rfl, e1, _, _⟩ := row_cell HR3.out hjl
          rw [intsI_get _ hjl] at e1
          have n1 := NN.out j hjl
          have s1 := sumI_mono NN.out m1 (j + 1) (by omega) (Nat.le_refl _)
          have s2 := sumI_nn NN.out j (by omega)
          have s3 := TOP.out
          have NS := hide (show sumI C (j + 1) = sumI C j + C j from rfl)
          have wa : IntKind.i64.wrap (sumI C j + C j) = sumI C (j + 1) := by rw [IntKind.wrap_i64, ← NS.out]; have := NS.out; omega
          have dn : decide (C j < 0) = false := by simp; omega
          clear s1 s2 s3 n1 NS
          generalize sumI C j = z at *
          generalize C j = y at *
          go_wp2_with fail
          go_round
          case rel => exact ⟨j + 1, by omega, by first | rfl | go_num, rfl⟩
          case measure => simp [intOf]; omega
        · have : j = m1 := by omega
          subst this
          have ej : decide (j < j) = false := by simp
          have ej2 : decide ((j : Int) < (j : Int)) = false := by simp
          have wm : IntKind.i64.wrap (j : Int) = (j : Int) := by have := HL0.out; have := HM1.out; rw [IntKind.wrap_i64]; omega
          clear hj hjl
          rw [← HM1.out] at TT
          generalize sumI C j = z at *
          go_wp2_with fail
          refine TT.out.mono ?_
          rintro e w' ⟨rfl, rfl⟩
          go_wp2_with fail
          refine (works _).mono ?_
          rintro e w5 ⟨rfl, bw⟩
          have HW := hide bw
          clear bw
          go_wp2_with fail
          go_ret
          exact ⟨rfl, (K3.out.below (by simp) (Nat.le_refl _)).trans (HW.out.mono K3.out.size)⟩
theorem own : ownKnob Try.prog.godebug = none := by kernel_rfl
theorem laidOut : laidOutB Try.prog = true := by kernel_rfl
set_option maxRecDepth 100000 in
theorem lifted (os : Os) (started : os.Started) (H : Type) (enc : TypeId × Value → H) :
    ReturnsInHanded {} Try.checked os 10 .any (Rows.histoTotalsSpec.pre6 enc Try.prog Try.f10 Rows.histoTotalsRow.domain false) (Rows.histoTotalsSpec.post enc Try.prog Try.f10 false true false false) := by
  refine returnsInHanded_of_change (C := Try.checked) own started (by kernel_rfl) Try.func10
    (ChangeSpec.witness6 (enc := enc) (C := Try.checked) false ⟨#[], #[.slice none 0 0, .slice none 0 0], []⟩ 8 (by kernel_rfl) (by kernel_rfl) (by kernel_rfl) (by kernel_rfl)) ?_
  intro W base args ds gs before hval0 hW hcnd _
  have hval : ∀ (j : Nat) t v, Try.f10.params[j]? = some t → args[j]? = some v → Value.okWide Try.prog W .any base t v := hval0
  have hW' := hW
  obtain ⟨p, q, hA0, hV, rfl, hfz, hnd⟩ := hW
  have hA : DataW.TrodAll enc Try.prog W 0 (fun _ => true) true Try.f10.params.toList args.toList ds p := hA0
  rw [Try.params10] at hA hval
  obtain ⟨v0, vs0, d0, ds0, p0, q0, hargs, rfl, rfl, h0, r0⟩ := trodAll_cons hA
  obtain ⟨v1, vs1, d1, ds1, p1, q1, rfl, rfl, rfl, h1, r1⟩ := trodAll_cons r0
  obtain ⟨rfl, rfl, rfl⟩ := trodAll_nil r1
  obtain rfl : args = #[v0, v1] := by cases args; simp_all
  obtain ⟨rfl, rfl⟩ := trodVars_none hV
  have k0 := h0
  have lt0 : ∀ x ∈ p0, x.block < W.heap.size := by obtain ⟨m, hm⟩ := k0; exact DataW.trod_lt m _ _ _ hm
  have k1 := h1
  have lt1 : ∀ x ∈ p1, x.block < W.heap.size := by obtain ⟨m, hm⟩ := k1; exact DataW.trod_lt m _ _ _ hm
  obtain ⟨s0, len0, cap0, rfl⟩ := okWide_slice Try.underlying22 (hval 0 22 v0 rfl rfl)
  obtain ⟨V0, hc0, hr0⟩ := rows_in Try.underlying22 (flat_int Try.underlying2 (by kernel_rfl)) (by decide) h0
  obtain ⟨s1, len1, cap1, rfl⟩ := okWide_slice Try.underlying33 (hval 1 33 v1 rfl rfl)
  obtain ⟨V1, hc1, hr1⟩ := rows_in Try.underlying33 (flat_struct (ks := [.i64, .i64]) Try.underlying36 (by kernel_rfl) (by kernel_rfl)) (by decide) h1
  clear hA0 hval0
  refine (walk s0 len0 cap0 V0 s1 len1 cap1 V1 W hc0 hr0 hc1 hr1).mono fun e W' ⟨he, bel⟩ => ?_
  subst he
  exact ⟨_, rfl, _, _, _, [], _, [], hW', trodAll_mk1 (shut_bool Try.underlying4 _), (trodAll_cons_mk (Below.trod laidOut (by kernel_rfl) (of_decide_eq_true (by kernel_rfl)) k0 bel lt0) (trodAll_cons_mk (Below.trod laidOut (by kernel_rfl) (of_decide_eq_true (by kernel_rfl)) k1 bel lt1) trodAll_mk0)), rfl, bel.frame _, fun h => by cases h⟩
theorem holds : Rows.histoTotalsRow.holds Try.pinned (OpenSpec.ofChange Rows.histoTotalsSpec) :=
  OpenClaim.holds_of_wide 10 Try.f10 rfl rfl rfl rfl rfl rfl rfl ⟨rfl, rfl, rfl, rfl, rfl⟩ rfl rfl rfl rfl rfl (by kernel_rfl) Try.func10 (by kernel_rfl)
    (of_decide_eq_true (by kernel_rfl)) (by unfold Func.isWrapper; first | (rw [if_pos (by decide +kernel)]; kernel_rfl) | (rw [if_neg (by decide +kernel)]; exact ⟨rfl, rfl⟩))
    (fun os started H enc _ => lifted os started H enc)
theorem proved : Rows.HistoTotalsSaid := holds
end lawTotals
end Go.Proofs.Ytenoalfjobghnaa
