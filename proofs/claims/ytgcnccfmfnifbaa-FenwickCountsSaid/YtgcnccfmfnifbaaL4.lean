/- FenwickCounts holds: each counter is found for as many units as it counts. -/
import Derived.Test.YtgcnccfmfnifbaaFZ
import Derived.Test.YtgcnccfmfnifbaaOp
import Derived.Test.YtgcnccfmfnifbaaRows
import Derived.Deep.CutRange
import Derived.StillTailTactics
set_option linter.unusedVariables false
set_option linter.unusedSimpArgs false
namespace Go.Proofs.Ytgcnccfmfnifbaa
open Go.RowKit
namespace lawCounts
open Go.ChangeShapes Go.WideShapes Go.ChangeAt Go.RowKit Go.Joins
set_option maxRecDepth 100000 in
set_option maxHeartbeats 16000000 in
theorem walk (s0 : Option Addr) (len0 cap0 : Nat) (V0 : Nat → Nat → Int) (w : World) (hc0 : len0 ≤ cap0 ∧ cap0 ≤ maxLen) (hr0 : RowsI w s0 [.u16] len0 V0) : Calls Try.prog 8 #[.slice s0 len0 cap0] w fun e w' => e = .returned (.bool true) ∧ Below w.heap.size w w' := by
  have WK := hide works_t
  by_cases h2 : 40 < len0
  · have d : decide ((40 : Int) < (len0 : Int)) = true := by simp; omega
    clear hc0 hr0 h2
    go_enter Try.func8, Try.ntmps8
    go_wp2_with fail
    refine (WK.out _).mono ?_
    rintro e w1 ⟨rfl, k1⟩
    have K1 := hide k1
    clear k1
    go_wp2_with fail
    go_ret
    exact ⟨rfl, K1.out.below (by simp) (Nat.le_refl _)⟩
  have d : decide ((40 : Int) < (len0 : Int)) = false := by simp; omega
  have HN := hide (show len0 ≤ 40 by omega)
  have RD := hide (rd16_arg hr0)
  have hm := make_U len0 (by omega)
  have hm2 := make_N len0 (by omega)
  have hlen : len0 ≤ 40 := HN.out
  have R0 := hide (made_full w (B := w.heap.size) (Nat.le_refl _) len0 (by have := HN.out; unfold maxLen; omega) (.int .u16 0) 51)
  have M1 := hide (show ∀ i, 0 ≤ V0 i 0 % 16 ∧ V0 i 0 % 16 ≤ 15 from fun i => by omega)
  obtain ⟨M, hM⟩ : ∃ M : Nat → Int, ∀ i, V0 i 0 % 16 = M i := ⟨_, fun _ => rfl⟩
  have HM := hide hM
  have M2 := hide (show ∀ i, 0 ≤ M i ∧ M i ≤ 15 from fun i => by rw [← HM.out i]; exact M1.out i)
  rw [← smF_0 .u16 M] at R0
  clear hc0 hr0 h2 hM M1
  go_enter Try.func8, Try.ntmps8
  go_wp2_with fail
  have K0 := hide (Kp.alloc w (.cells (madeCells #[.int .u16 0] len0) 51))
  obtain ⟨g, hg⟩ : ∃ g, g = w.heap.size := ⟨_, rfl⟩
  have HG := hide (show w.heap.size ≤ g by omega)
  rw [← hg] at R0 ⊢
  clear hm
  generalize w.alloc (.cells (madeCells #[.int .u16 0] len0) 51) = w1 at *
  rw [hg] at R0
  rw [← hg] at R0
  clear hg
  go_loopw [4] (fun i wr => ∃ I : Nat, I ≤ len0 ∧ i = .int .i64 (I : Int) ∧ Hid (wr.ownsRow g 51 1 (.slice (some ⟨g, 0, none⟩) len0 len0) len0 (rowV len0 (smF .u16 M I))) ∧ Hid (Kp [] w wr)) (fun i _ => len0 - (intOf i).toNat)
  case atStart => exact ⟨0, Nat.zero_le _, rfl, R0.out, K0.out⟩
  case round =>
    obtain ⟨I, hI, rfl, hR, hK⟩ := hrel
    by_cases hlt : I < len0
    · have dk : decide (I < len0) = true := by simpa using hlt
      have dk' : decide ((I : Int) < (len0 : Int)) = true := by simpa using hlt
      have bI : (I : Int) < (len0 : Int) := by omega
      have wI : IntKind.i64.wrap ((I : Int) + 1) = (I : Int) + 1 := by rw [IntKind.wrap_i64]; omega
      rcases RD.out.below hK.out with h0 | ⟨bs, off, rfl, hbs, hc⟩
      · omega
      obtain ⟨c0, v1, v2⟩ := hc I hlt
      have hMI := HM.out I
      have mI := M2.out I
      have ht : (V0 I 0).tmod 16 = M I := by rw [Int.tmod_eq_emod_of_nonneg v1, hMI]
      generalize V0 I 0 = x at *
      have wm : IntKind.u16.wrap (M I) = M I := by rw [IntKind.wrap_u16]; omega
      obtain ⟨_, hpp, e1, f1, _⟩ := row_cell hR.out hlt
      injection hpp with hpp; injection hpp with hpp; subst hpp
      rw [rowV_get _ hlt, smF, if_neg (by omega)] at e1
      have R1 := hide (row_putV hR.out I (.int .u16 (M I)))
      rw [smF_upd] at R1
      have K1 := hide (hK.out.put g I (.int .u16 (M I)) (.inr HG.out))
      have HLT := hide hlt
      clear hc hbs hlt hMI mI v1 v2
      go_wp2_with fail
      go_roundw
      case rel => exact ⟨I + 1, by have := HLT.out; omega, by go_num, R1, K1⟩
      case measure => have := HLT.out; simp [intOf]; omega
    · have hE : I = len0 := by omega
      have dk : decide (I < len0) = false := by simpa using hlt
      have dk' : decide ((I : Int) < (len0 : Int)) = false := by simp; omega
      have KG := hide hK.out
      have FL := hide (filled_t (c := len0) (rd16_own hE hR.out (fun i hi => ⟨(M2.out i).1, by have := M2.out i; omega⟩)) (by omega))
      have RS := hide (show wr.ownsRow g 51 1 (.slice (some ⟨g, 0, none⟩) len0 len0) len0 (rowV len0 (smF .u16 M len0)) by have := hR.out; rw [hE] at this; exact this)
      clear hlt hR hK hE
      go_wp2_with fail
      refine FL.out.mono ?_
      rintro e w2 ⟨b, own, rfl, f1, ho, k2⟩
      have SN := hide f1.nn
      have LI := hide (show ∀ i, i < len0 → lC len0 (fun i _ => M i) i = M i from fun i h => lC_in (fun i _ => M i) h)
      have SB := hide (sumS_le (C := lC len0 (fun i _ => M i)) (M := 15) (fun i => by unfold lC; split; exact (M2.out i).2; decide))
      have CF := hide (fun W (kW : Kp [] w2 W) (x : Int) => find_t (f1.keep0 kW) x)
      have CT := hide (fun W (kW : Kp [] w2 W) => total_t (f1.keep0 kW))
      have RS2 := hide (k2.row RS.out (by simp))
      have K2 := hide (KG.out.trans0 k2)
      generalize lC len0 (fun i _ => M i) = C at *
      clear f1 ho k2 FL
      go_wp2_with fail
      have Q0 := hide (made_full w2 (B := w2.heap.size) (Nat.le_refl _) len0 (by have := HN.out; unfold maxLen; omega) (.int .i64 0) 3)
      rw [← cntF_0 SN.out] at Q0
      have Kh := hide (Kp.alloc w2 (.cells (madeCells #[.int .i64 0] len0) 3))
      obtain ⟨h, hh⟩ : ∃ h, h = w2.heap.size := ⟨_, rfl⟩
      have HH := hide (show w2.heap.size ≤ h by omega)
      rw [← hh] at Q0 ⊢
      clear hm2
      generalize w2.alloc (.cells (madeCells #[.int .i64 0] len0) 3) = w3 at *
      clear hh
      go_loopw [7, 8] (fun l x wr => ∃ L X : Nat, l = .int .i64 (L : Int) ∧ x = .int .i64 (X : Int) ∧ Hid (sumS C L ≤ (X : Int) ∧ (X : Int) ≤ sumS C len0) ∧ Hid (wr.ownsRow h 3 1 (.slice (some ⟨h, 0, none⟩) len0 len0) len0 (rowV len0 (cntF C X))) ∧ Hid (Kp [] w2 wr)) (fun _ x _ => (sumS C len0).toNat - (intOf x).toNat)
      case atStart => exact ⟨0, 0, rfl, rfl, ⟨by show (0 : Int) ≤ _; exact Int.le_refl _, by have := sumS_mono SN.out (Nat.zero_le len0); have e : sumS C 0 = 0 := rfl; simpa [e] using this⟩, Q0, Kh⟩
      case round =>
        obtain ⟨L, X, rfl, rfl, hI, hQ, hK⟩ := hrel
        by_cases hlt : (X : Int) < sumS C len0
        · have dk' : decide ((X : Int) < sumS C len0) = true := by simpa using hlt
          have hTB : sumS C len0 ≤ 600 := by have := SB.out len0; omega
          have HLT := hide (And.intro hlt hTB)
          have wX : IntKind.i64.wrap ((X : Int) + 1) = (X : Int) + 1 := by rw [IntKind.wrap_i64]; omega
          have CTr := hide (CT.out _ hK.out)
          have CFr := hide (CF.out _ hK.out (X : Int))
          obtain ⟨T, hT⟩ : ∃ T, T = sumS C len0 := ⟨_, rfl⟩
          have HTE := hide hT
          rw [← hT] at CTr HLT dk'
          clear hlt hTB hT
          go_wp2_with fail
          refine CTr.out.mono ?_
          rintro e w4 ⟨rfl, rfl⟩
          go_wp2_with fail
          refine CFr.out.mono ?_
          rintro e w5 ⟨f, k5⟩
          obtain ⟨g1, g2, j, hj, h3, h4, rfl⟩ : ∃ _ : 0 ≤ (X : Int), ∃ _ : (X : Int) < sumS C len0, ∃ i : Nat, i < len0 ∧ sumS C i ≤ (X : Int) ∧ (X : Int) < sumS C (i + 1) ∧ e = .returned (.tuple #[.int .i64 (i : Int), .bool true]) := by
            rcases f with ⟨g1, g2, r⟩ | ⟨hn, _⟩
            · exact ⟨g1, g2, r⟩
            · exact (hn ⟨by omega, by have := HLT.out.1; have := HTE.out; omega⟩).elim
          have jL := found_le SN.out hI.out.1 h4
          have j1 : decide ((j : Int) < (L : Int)) = false := by simp; omega
          have j2 : decide ((len0 : Int) ≤ (j : Int)) = false := by simp; omega
          have j1' : decide (j < L) = false := by simp; omega
          have j2' : decide (len0 ≤ j) = false := by simp; omega
          have bj : (j : Int) < (len0 : Int) := by omega
          have HJ := hide h3
          have R1 := hide (row_putV (k5.row hQ.out (by simp)) j (.int .i64 (cnt C X j + 1)))
          rw [cntF_upd SN.out h3 h4, show (X : Int) + 1 = ((X + 1 : Nat) : Int) by omega] at R1
          obtain ⟨_, hpp, e1, f1, _⟩ := row_cell (k5.row hQ.out (by simp)) hj
          injection hpp with hpp; injection hpp with hpp; subst hpp
          rw [rowV_get _ hj, cntF] at e1
          have cb : 0 ≤ cnt C X j ∧ cnt C X j ≤ 600 := by
            rw [cnt_at h3 h4]
            have := sumS_mono SN.out (Nat.zero_le j)
            have e : sumS C 0 = 0 := rfl
            have := HLT.out
            omega
          have K5 := hide ((hK.out.trans0 k5).put h j (.int .i64 (cnt C X j + 1)) (.inr HH.out))
          generalize cnt C X j = q at *
          have wq : IntKind.i64.wrap (q + 1) = q + 1 := by rw [IntKind.wrap_i64]; omega
          clear f g1 g2 h3 h4 k5 jL cb dk'
          go_wp2_with fail
          go_roundw
          case rel => exact ⟨j, X + 1, rfl, by go_num, ⟨by have := HJ.out; omega, by have := HLT.out; have := HTE.out; omega⟩, R1, K5⟩
          case measure => have := HLT.out; have := HTE.out; simp [intOf]; omega
        · have dk' : decide ((X : Int) < sumS C len0) = false := by simpa using hlt
          have hX : (X : Int) = sumS C len0 := by have := hI.out.2; omega
          have CTr := hide (CT.out _ hK.out)
          rw [hX] at hQ
          have QQ := hide hQ.out
          have KQ := hide hK.out
          clear hlt hX hI hQ hK
          go_wp2_with fail
          refine CTr.out.mono ?_
          rintro e w4 ⟨rfl, rfl⟩
          go_wp2_with fail
          go_loopw [11] (fun i wz => ∃ I : Nat, I ≤ len0 ∧ i = .int .i64 (I : Int) ∧ Hid (Kp [] wr wz)) (fun i _ => len0 - (intOf i).toNat)
          case atStart => exact ⟨0, Nat.zero_le _, rfl, hide (Kp.refl _ _)⟩
          case round =>
            obtain ⟨J, hJ, rfl, hK⟩ := hrel
            by_cases hlt : J < len0
            · have ek : decide (J < len0) = true := by simpa using hlt
              have ek' : decide ((J : Int) < (len0 : Int)) = true := by simpa using hlt
              have bJ : (J : Int) < (len0 : Int) := by omega
              have wJ : IntKind.i64.wrap ((J : Int) + 1) = (J : Int) + 1 := by rw [IntKind.wrap_i64]; omega
              obtain ⟨_, hpp, e1, f1, _⟩ := row_cell (hK.out.row QQ.out (by simp)) hlt
              injection hpp with hpp; injection hpp with hpp; subst hpp
              rw [rowV_get _ hlt, cntF, cnt_all SN.out hlt, LI.out J hlt] at e1
              obtain ⟨_, hpp, e2, f2, _⟩ := row_cell ((KQ.out.trans0 hK.out).row RS2.out (by simp)) hlt
              injection hpp with hpp; injection hpp with hpp; subst hpp
              rw [rowV_get _ hlt, smF, if_pos hlt] at e2
              have mJ := M2.out J
              have wm : IntKind.i64.wrap (M J) = M J := by rw [IntKind.wrap_i64]; omega
              have wm' : wrap64 (M J) = M J := by unfold wrap64; omega
              have HLT := hide hlt
              clear hlt mJ dk'
              go_wp2_with fail
              go_quiet (fail)
              have K2' := hide (hK.out.trans0 (Kp.drewN [] wr nq))
              go_wp2_with fail
              go_roundw
              case rel => exact ⟨J + 1, by have := HLT.out; omega, by go_num, K2'⟩
              case measure => have := HLT.out; simp [intOf]; omega
            · have ek : decide (J < len0) = false := by simpa using hlt
              have ek' : decide ((J : Int) < (len0 : Int)) = false := by simp; omega
              have KZ := hide hK.out
              clear hlt hK dk'
              go_wp2_with fail
              refine (WK.out _).mono ?_
              rintro e w9 ⟨rfl, k2⟩
              have K' := hide (K2.out.trans0 (KQ.out.trans0 (KZ.out.trans0 k2)))
              clear k2
              go_wp2_with fail
              go_ret
              exact ⟨rfl, K'.out.below (by simp) (Nat.le_refl _)⟩
theorem own : ownKnob Try.prog.godebug = none := by kernel_rfl
theorem laidOut : laidOutB Try.prog = true := by kernel_rfl
set_option maxRecDepth 100000 in
theorem lifted (os : Os) (started : os.Started) (H : Type) (enc : TypeId × Value → H) :
    ReturnsInHanded {} Try.checked os 8 .any (Rows.fenwickCountsSpec.pre6 enc Try.prog Try.f8 Rows.fenwickCountsRow.domain false) (Rows.fenwickCountsSpec.post enc Try.prog Try.f8 false true false false) := by
  refine returnsInHanded_of_change (C := Try.checked) own started (by kernel_rfl) Try.func8
    (ChangeSpec.witness6 (enc := enc) (C := Try.checked) false ⟨#[], #[.slice none 0 0], []⟩ 8 (by kernel_rfl) (by kernel_rfl) (by kernel_rfl) (by kernel_rfl)) ?_
  intro W base args ds gs before hval0 hW hcnd _
  have hval : ∀ (j : Nat) t v, Try.f8.params[j]? = some t → args[j]? = some v → Value.okWide Try.prog W .any base t v := hval0
  have hW' := hW
  obtain ⟨p, q, hA0, hV, rfl, hfz, hnd⟩ := hW
  have hA : DataW.TrodAll enc Try.prog W 0 (fun _ => true) true Try.f8.params.toList args.toList ds p := hA0
  rw [Try.params8] at hA hval
  obtain ⟨v0, vs0, d0, ds0, p0, q0, hargs, rfl, rfl, h0, r0⟩ := trodAll_cons hA
  obtain ⟨rfl, rfl, rfl⟩ := trodAll_nil r0
  obtain rfl : args = #[v0] := by cases args; simp_all
  obtain ⟨rfl, rfl⟩ := trodVars_none hV
  have k0 := h0
  have lt0 : ∀ x ∈ p0, x.block < W.heap.size := by obtain ⟨m, hm⟩ := k0; exact DataW.trod_lt m _ _ _ hm
  obtain ⟨s0, len0, cap0, rfl⟩ := okWide_slice Try.underlying50 (hval 0 50 v0 rfl rfl)
  obtain ⟨V0, hc0, hr0⟩ := rows_in Try.underlying50 (flat_int Try.underlying51 (by kernel_rfl)) (by decide) h0
  clear hA0 hval0
  refine (walk s0 len0 cap0 V0 W hc0 hr0).mono fun e W' ⟨he, bel⟩ => ?_
  subst he
  exact ⟨_, rfl, _, _, _, [], _, [], hW', trodAll_mk1 (shut_bool Try.underlying4 _), (trodAll_cons_mk (Below.trod laidOut (by kernel_rfl) (of_decide_eq_true (by kernel_rfl)) k0 bel lt0) trodAll_mk0), rfl, bel.frame _, fun h => by cases h⟩
theorem holds : Rows.fenwickCountsRow.holds Try.pinned (OpenSpec.ofChange Rows.fenwickCountsSpec) :=
  OpenClaim.holds_of_wide 8 Try.f8 rfl rfl rfl rfl rfl rfl rfl ⟨rfl, rfl, rfl, rfl, rfl⟩ rfl rfl rfl rfl rfl (by kernel_rfl) Try.func8 (by kernel_rfl)
    (of_decide_eq_true (by kernel_rfl)) (by unfold Func.isWrapper; first | (rw [if_pos (by decide +kernel)]; kernel_rfl) | (rw [if_neg (by decide +kernel)]; exact ⟨rfl, rfl⟩))
    (fun os started H enc _ => lifted os started H enc)
theorem proved : Rows.FenwickCountsSaid := holds
end lawCounts
end Go.Proofs.Ytgcnccfmfnifbaa
