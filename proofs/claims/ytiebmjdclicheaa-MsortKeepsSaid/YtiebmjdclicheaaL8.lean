/- MsortKeeps holds: sorted records are in order, and each is there as often as before. -/
import Derived.Test.YtiebmjdclicheaaMZb
import Derived.Test.YtiebmjdclicheaaOp
import Derived.Test.YtiebmjdclicheaaRows
import Derived.Deep.CutRange
import Derived.StillTailTactics
set_option linter.unusedVariables false
set_option linter.unusedSimpArgs false
namespace Go.Proofs.Ytiebmjdclicheaa
open Go.RowKit
namespace lawKeeps
open Go.ChangeShapes Go.WideShapes Go.ChangeAt Go.RowKit Go.Joins
set_option maxRecDepth 100000 in
set_option maxHeartbeats 16000000 in
theorem walk (s0 : Option Addr) (len0 cap0 : Nat) (V0 : Nat → Nat → Int) (a1 : Int) (w : World) (hc0 : len0 ≤ cap0 ∧ cap0 ≤ maxLen) (hr0 : RowsI w s0 [.u64, .u64, .i64, .i64] len0 V0) (b1 : 0 ≤ a1 ∧ a1 ≤ 255) : Calls Try.prog 7 #[.slice s0 len0 cap0, .int .u8 a1] w fun e w' => e = .returned (.bool true) ∧ Below w.heap.size w w' := by
  have H0 := hide (hr_arg hc0 hr0)
  have LN := hide (lR_len len0 V0)
  by_cases h2 : 200 < len0
  · have d : decide ((200 : Int) < (len0 : Int)) = true := by simp; omega
    clear hc0 hr0 b1 h2
    go_enter Try.func7, Try.ntmps7
    go_wp2_with fail
    go_ret
    exact ⟨rfl, Below.refl _ _⟩
  have d : decide ((200 : Int) < (len0 : Int)) = false := by simp; omega
  have WK := hide works_t
  have TH := hide (three_t a1 b1)
  have HN := hide (show len0 ≤ 200 by omega)
  generalize lR len0 V0 = l at *
  have SO := hide (fun k => sort_h (k := k) H0.out)
  have hm : ∀ w : World, (Instr.makeSlice 46 (.int .i64 (len0 : Int)) (.int .i64 (len0 : Int))).run Try.prog w = .ok (.slice (some ⟨w.heap.size, 0, none⟩) len0 len0) (w.alloc (.cells (madeCells #[.bool false] len0) 4)) :=
    fun w => run_make_row' 46 4 (.bool false) 1 Try.underlying46 infoB rfl .i64 .i64 len0 (by omega) (by omega) w
  clear hc0 hr0 b1 h2
  go_enter Try.func7, Try.ntmps7
  go_wp2_with fail
  refine (TH.out _).mono ?_
  rintro e w' ⟨⟨k, hk, rfl⟩, rfl⟩
  have E0 := hide (show chk l.length k = 0 from chk_ok hk (by rw [LN.out]; have := HN.out; omega))
  have SO1 := hide (SO.out k)
  rw [E0.out] at SO1
  have SL := hide (show (sortA k l).length = len0 by rw [sortA_len E0.out, LN.out])
  have SP := hide (sortA_perm (k := k) (l := l) E0.out)
  have E1 := hide (show chk (sortA k l).length k = 0 from chk_ok hk (by rw [SL.out]; have := HN.out; omega))
  have SS := hide (fun W v (h : HR W v (sortA k l)) => sorted_h (k := k) h)
  rw [E1.out, show sorE k (sortA k l) = true by unfold sorE; rw [if_pos E1.out]; exact inO_iff.2 (sortA_ord E0.out)] at SS
  generalize sortA k l = S at *
  clear hk SO
  go_wp2_with fail
  refine SO1.out.mono ?_
  rintro e w1 ⟨vs, rfl, hs, ps, k1⟩
  have K1 := hide k1
  have SS1 := hide (SS.out _ _ hs)
  have HS := hide hs
  clear hs ps k1
  go_wp2_with fail
  refine SS1.out.mono ?_
  rintro e w2 ⟨rfl, k2⟩
  have K2 := hide (K1.out.trans0 k2)
  obtain ⟨qs, cs, rfl, hcs, rs⟩ := HS.out.keep k2
  have RS := hide rs
  rw [SL.out]
  clear hcs rs k2 HS
  go_wp2_with fail
  have R0 := hide (made_full w2 (B := w.heap.size) K2.out.size len0 (by have := HN.out; unfold maxLen; omega) (.bool false) 4)
  have K3 := hide (Kp.alloc w2 (.cells (madeCells #[.bool false] len0) 4))
  obtain ⟨g, hg⟩ : ∃ g, g = w2.heap.size := ⟨_, rfl⟩
  rw [← hg] at R0 ⊢
  have HG2 := hide (show w2.heap.size ≤ g by omega)
  clear hg
  generalize w2.alloc (.cells (madeCells #[.bool false] len0) 4) = w3 at *
  go_loopw [11] (fun i wr => ∃ (I : Nat) (G : Nat → Bool), I ≤ len0 ∧ i = .int .i64 (I : Int) ∧ Hid (Match S (l.take I) G) ∧ Hid (wr.ownsRow w.heap.size 4 1 (.slice (some ⟨g, 0, none⟩) len0 len0) len0 (rowV len0 (flag G))) ∧ Hid (Kp [] w2 wr)) (fun i _ => len0 - (intOf i).toNat)
  case atStart => exact ⟨0, fun _ => false, Nat.zero_le _, rfl, Match.start S, R0.out, K3.out⟩
  case round =>
    obtain ⟨I, G, hI, rfl, hM, hR, hK⟩ := hrel
    by_cases hlt : I < len0
    · have dk : decide (I < len0) = true := by simpa using hlt
      have dk' : decide ((I : Int) < (len0 : Int)) = true := by simpa using hlt
      have bI : (I : Int) < (len0 : Int) := by omega
      have wI : IntKind.i64.wrap ((I : Int) + 1) = (I : Int) + 1 := by have := HN.out; rw [IntKind.wrap_i64]; omega
      have hlI : I < l.length := by rw [LN.out]; exact hlt
      obtain ⟨y, hy⟩ : ∃ y, y = l.getD I zz := ⟨_, rfl⟩
      have HGI := hide (show l[I]? = some y by rw [hy]; exact getD_some hlI)
      have FI := hide (hM.out.find SP.out HGI.out)
      have HY := hide hy
      have HLT := hide hlt
      have HLI := hide hlI
      obtain ⟨wo, hwo⟩ : ∃ wo : World, wo = wr := ⟨_, rfl⟩
      rw [← hwo] at hR hK ⊢
      clear hwo hlt hlI hy
      go_wp2_with fail
      go_loopw [12, 13] (fun f j wr => ∃ (J : Nat) (b : Bool) (G' : Nat → Bool), f = .bool b ∧ j = .int .i64 (J : Int) ∧ Hid (J ≤ len0) ∧ Hid (wr.ownsRow w.heap.size 4 1 (.slice (some ⟨g, 0, none⟩) len0 len0) len0 (rowV len0 (flag G'))) ∧ Hid (if b = true then Match S (l.take (I + 1)) G' else (G' = G ∧ ∀ i, i < J → ¬ (G i = false ∧ S.getD i zz = y))) ∧ Hid (Kp [] w2 wr)) (fun _ j _ => len0 - (intOf j).toNat)
      case atStart => exact ⟨0, false, G, rfl, rfl, Nat.zero_le _, hR.out, ⟨rfl, fun i hi => absurd hi (by omega)⟩, hK.out⟩
      case round =>
        obtain ⟨J, b, G', rfl, rfl, hJ, hR2, hC, hK2⟩ := hrel
        cases b
        · have hC1 := hide (show G' = G ∧ ∀ i, i < J → ¬ (G i = false ∧ S.getD i zz = y) from by have := hC.out; simpa using this)
          have hGG := hC1.out.1
          subst hGG
          by_cases hlj : J < len0
          · have ek : decide (J < len0) = true := by simpa using hlj
            have ek' : decide ((J : Int) < (len0 : Int)) = true := by simpa using hlj
            have bJ : (J : Int) < (len0 : Int) := by omega
            have wJ : IntKind.i64.wrap ((J : Int) + 1) = (J : Int) + 1 := by have := HN.out; rw [IntKind.wrap_i64]; omega
            obtain ⟨_, hpp, e1, f1, _⟩ := row_cell hR2.out hlj
            injection hpp with hpp; injection hpp with hpp; subst hpp
            rw [rowV_get _ hlj] at e1
            unfold flag at e1
            have HLJ := hide hlj
            cases hg : G' J
            · rw [hg] at e1
              have HGJ := hide hg
              obtain ⟨bs, os, rfl, hbs, cs4⟩ := rdr_get (RS.out.below hK2.out) (show J < S.length by rw [SL.out]; exact hlj)
              obtain ⟨s1, s2, s3, s4⟩ := cs4 J (by rw [SL.out]; exact hlj)
              obtain ⟨bl, ol, rfl, hbl, cl4⟩ := rdr_get ((H0.out.rd.below K2.out).below hK2.out) HLI.out
              obtain ⟨l1, l2, l3, l4⟩ := cl4 I HLI.out
              rw [← HY.out] at l1 l2 l3 l4
              obtain ⟨z, hz⟩ : ∃ z, z = S.getD J zz := ⟨_, rfl⟩
              rw [← hz] at s1 s2 s3 s4
              have HZ := hide hz
              have lI : I < len0 := HLT.out
              clear hg cs4 cl4 hbs hbl hlj
              by_cases hzy : z = y
              · subst hzy
                have MM := hide (hM.out.more (show J < S.length by rw [SL.out]; exact HLJ.out) HGJ.out HZ.out.symm)
                rw [← take_next HGI.out] at MM
                clear hz
                go_wp2_with fail
                go_quiet (fail)
                have R3 := hide (row_putV ((Kp.drewN [] wr nq).row hR2.out (by simp)) J (.bool true))
                rw [flag_upd] at R3
                have K4 := hide ((hK2.out.trans0 (Kp.drewN [] wr nq)).put g J (.bool true) (.inr HG2.out))
                have e1' : (wr.drewN nq).cell? ⟨g, J, none⟩ = some (.bool false) := e1
                have f1' : (wr.drewN nq).frozen? ⟨g, J, none⟩ = false := f1
                generalize wr.drewN nq = w4 at *
                clear e1 f1 s1 s2 s3 s4 l1 l2 l3 l4
                go_wp2_with fail
                go_roundw
                case rel => exact ⟨J + 1, true, updB G' J, rfl, by go_num, by have := HLJ.out; show J + 1 ≤ len0; omega, R3.out, by show (if true = true then _ else _); rw [if_pos rfl]; exact MM.out, K4.out⟩
                case measure => have := HLJ.out; simp [intOf]; omega
              · have NE := hide hzy
                obtain ⟨zu, zv, zw, zt⟩ := z
                obtain ⟨yu, yv, yw, yt⟩ := y
                dsimp only at s1 s2 s3 s4 l1 l2 l3 l4
                have eq1 : ∀ w, (binOp .eql 24 (.agg #[.int .u64 zu, .int .u64 zv, .int .i64 zw, .int .i64 zt]) (.agg #[.int .u64 yu, .int .u64 yv, .int .i64 yw, .int .i64 yt])).run Try.prog w = .ok (.bool false) w := by
                  intro w
                  have := eql_rec ⟨zu, zv, zw, zt⟩ ⟨yu, yv, yw, yt⟩ w
                  rw [show decide ((⟨zu, zv, zw, zt⟩ : R4) = ⟨yu, yv, yw, yt⟩) = false by simpa using NE.out] at this
                  exact this
                have CN := hide (show ∀ i, i < J + 1 → ¬ (G' i = false ∧ S.getD i zz = ⟨yu, yv, yw, yt⟩) from fun i hi => by
                  by_cases e : i = J
                  · subst e; rw [← HZ.out]; exact fun h => NE.out h.2
                  · exact hC1.out.2 i (by omega))
                clear hz hzy
                go_wp2_with fail
                go_quiet (fail)
                go_wp2_with fail
                go_roundw
                case rel => exact ⟨J + 1, false, G', rfl, by go_num, by have := HLJ.out; show J + 1 ≤ len0; omega, (Kp.drewN [] _ _).row hR2.out (by simp), by show (if false = true then _ else _); rw [if_neg (by decide)]; exact ⟨rfl, CN.out⟩, hK2.out.trans0 (Kp.drewN [] _ _)⟩
                case measure => have := HLJ.out; simp [intOf]; omega
            · rw [hg] at e1
              have CN := hide (show ∀ i, i < J + 1 → ¬ (G' i = false ∧ S.getD i zz = y) from fun i hi => by
                by_cases e : i = J
                · subst e; rw [hg]; exact fun h => by cases h.1
                · exact hC1.out.2 i (by omega))
              clear hg hlj
              go_wp2_with fail
              go_quiet (fail)
              go_wp2_with fail
              go_roundw
              case rel => exact ⟨J + 1, false, G', rfl, by go_num, by have := HLJ.out; show J + 1 ≤ len0; omega, (Kp.drewN [] _ _).row hR2.out (by simp), by show (if false = true then _ else _); rw [if_neg (by decide)]; exact ⟨rfl, CN.out⟩, hK2.out.trans0 (Kp.drewN [] _ _)⟩
              case measure => have := HLJ.out; simp [intOf]; omega
          · exfalso
            obtain ⟨j, h1, h2, h3⟩ := FI.out
            exact hC1.out.2 j (by rw [SL.out] at h1; omega) ⟨h2, h3⟩
        · have hC1 := hide (show Match S (l.take (I + 1)) G' from by have := hC.out; rw [if_pos rfl] at this; exact this)
          by_cases hlj : J < len0
          all_goals
            first
              | (have ek : decide (J < len0) = true := (by simpa using hlj); have ek' : decide ((J : Int) < (len0 : Int)) = true := (by simpa using hlj))
              | (have ek : decide (J < len0) = false := (by simpa using hlj); have ek' : decide ((J : Int) < (len0 : Int)) = false := (by simpa using hlj))
            clear hlj
            go_wp2_with fail
            go_roundw
            case rel => exact ⟨I + 1, G', by have := HLT.out; omega, by go_num, hC1.out, hR2.out, hK2.out⟩
            case measure => have := HLT.out; simp [intOf]; omega
    · have dk : decide (I < len0) = false := by simp; omega
      have dk' : decide ((I : Int) < (len0 : Int)) = false := by simp; omega
      have WW := hide (WK.out wr)
      clear hlt
      go_wp2_with fail
      refine WW.out.mono ?_
      rintro e w8 ⟨rfl, k8⟩
      have K8 := hide ((K2.out.trans0 hK.out).trans0 k8)
      clear k8 WW
      go_wp2_with fail
      go_ret
      exact ⟨rfl, K8.out.below (by simp) (Nat.le_refl _)⟩
theorem own : ownKnob Try.prog.godebug = none := by kernel_rfl
theorem laidOut : laidOutB Try.prog = true := by kernel_rfl
set_option maxRecDepth 100000 in
theorem lifted (os : Os) (started : os.Started) (H : Type) (enc : TypeId × Value → H) :
    ReturnsInHanded {} Try.checked os 7 .any (Rows.msortKeepsSpec.pre6 enc Try.prog Try.f7 Rows.msortKeepsRow.domain false) (Rows.msortKeepsSpec.post enc Try.prog Try.f7 false true false false) := by
  refine returnsInHanded_of_change (C := Try.checked) own started (by kernel_rfl) Try.func7
    (ChangeSpec.witness6 (enc := enc) (C := Try.checked) false ⟨#[], #[.slice none 0 0, .int .u8 0], []⟩ 8 (by kernel_rfl) (by kernel_rfl) (by kernel_rfl) (by kernel_rfl)) ?_
  intro W base args ds gs before hval0 hW hcnd _
  have hval : ∀ (j : Nat) t v, Try.f7.params[j]? = some t → args[j]? = some v → Value.okWide Try.prog W .any base t v := hval0
  have hW' := hW
  obtain ⟨p, q, hA0, hV, rfl, hfz, hnd⟩ := hW
  have hA : DataW.TrodAll enc Try.prog W 0 (fun _ => true) true Try.f7.params.toList args.toList ds p := hA0
  rw [Try.params7] at hA hval
  obtain ⟨v0, vs0, d0, ds0, p0, q0, hargs, rfl, rfl, h0, r0⟩ := trodAll_cons hA
  obtain ⟨v1, vs1, d1, ds1, p1, q1, rfl, rfl, rfl, h1, r1⟩ := trodAll_cons r0
  obtain ⟨rfl, rfl, rfl⟩ := trodAll_nil r1
  obtain rfl : args = #[v0, v1] := by cases args; simp_all
  obtain ⟨rfl, rfl⟩ := trodVars_none hV
  have k0 := h0
  have lt0 : ∀ x ∈ p0, x.block < W.heap.size := by obtain ⟨m, hm⟩ := k0; exact DataW.trod_lt m _ _ _ hm
  have k1 := h1
  have lt1 : ∀ x ∈ p1, x.block < W.heap.size := by obtain ⟨m, hm⟩ := k1; exact DataW.trod_lt m _ _ _ hm
  obtain ⟨s0, len0, cap0, rfl⟩ := okWide_slice Try.underlying31 (hval 0 31 v0 rfl rfl)
  obtain ⟨V0, hc0, hr0⟩ := rows_in Try.underlying31 (flat_struct (ks := [.u64, .u64, .i64, .i64]) Try.underlying24 (by kernel_rfl) (by kernel_rfl)) (by decide) h0
  obtain ⟨a1, rfl, _, _, w1⟩ := open_int Try.underlying5 (hval 1 5 v1 rfl rfl) h1
  clear hA0 hval0
  refine (walk s0 len0 cap0 V0 a1 W hc0 hr0 (bounds_u8 w1)).mono fun e W' ⟨he, bel⟩ => ?_
  subst he
  exact ⟨_, rfl, _, _, _, [], _, [], hW', trodAll_mk1 (shut_bool Try.underlying4 _), (trodAll_cons_mk (Below.trod laidOut (by kernel_rfl) (of_decide_eq_true (by kernel_rfl)) k0 bel lt0) (trodAll_cons_mk (Below.trod laidOut (by kernel_rfl) (of_decide_eq_true (by kernel_rfl)) k1 bel lt1) trodAll_mk0)), rfl, bel.frame _, fun h => by cases h⟩
theorem holds : Rows.msortKeepsRow.holds Try.pinned (OpenSpec.ofChange Rows.msortKeepsSpec) :=
  OpenClaim.holds_of_wide 7 Try.f7 rfl rfl rfl rfl rfl rfl rfl ⟨rfl, rfl, rfl, rfl, rfl⟩ rfl rfl rfl rfl rfl (by kernel_rfl) Try.func7 (by kernel_rfl)
    (of_decide_eq_true (by kernel_rfl)) (by unfold Func.isWrapper; first | (rw [if_pos (by decide +kernel)]; kernel_rfl) | (rw [if_neg (by decide +kernel)]; exact ⟨rfl, rfl⟩))
    (fun os started H enc _ => lifted os started H enc)
theorem proved : Rows.MsortKeepsSaid := holds
end lawKeeps
end Go.Proofs.Ytiebmjdclicheaa
