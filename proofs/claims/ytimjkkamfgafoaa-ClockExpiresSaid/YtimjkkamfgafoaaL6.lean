/- ClockExpires holds: an edge that has expired is never live again; one with the time of the clock is live until the clock has gone on by the window. -/
import Derived.Test.YtimjkkamfgafoaaC
import Derived.Test.YtimjkkamfgafoaaOp
import Derived.Test.YtimjkkamfgafoaaRows
import Derived.Deep.CutRange
set_option linter.unusedVariables false
set_option linter.unusedSimpArgs false
namespace Go.Proofs.Ytimjkkamfgafoaa
open Go.RowKit
theorem nx_le {n t x : Int} (hx : I64 x) (hn : 1 ≤ n) (hN : n ≤ 9223372036854775807) (h0 : 0 ≤ t) : t ≤ nx n t x := by
  by_cases h : ck n t x = 0
  · rw [nx_ok h]; exact (ck0 hx hn hN h0 h).1
  · rw [nx_no h]; exact Int.le_refl _
theorem lv_self {n t u : Int} (h : t ≤ u) : lv n u t = decide (u < t + n) := by unfold lv; simp [h]
theorem lv_gone {n t a : Int} (h : a + n ≤ t) : lv n t a = false := by unfold lv; simp; omega
theorem gone_now {n t u a : Int} (h : t ≤ u) (h1 : lv n t a = true) (h2 : lv n u a = false) : a + n ≤ u := by
  unfold lv at *; simp at h1 h2; omega
namespace lawExpires
open Go.ChangeShapes Go.WideShapes Go.ChangeAt Go.RowKit Go.Joins
set_option maxRecDepth 100000 in
set_option maxHeartbeats 16000000 in
theorem walk (a0 a1 : Int) (s2 : Option Addr) (len2 cap2 : Nat) (V2 : Nat → Nat → Int) (w : World) (b0 : I64 a0) (b1 : I64 a1) (hc2 : len2 ≤ cap2 ∧ cap2 ≤ maxLen) (hr2 : RowsI w s2 [.i64] len2 V2) : Calls Try.prog 7 #[.int .i64 a0, .int .i64 a1, .slice s2 len2 cap2] w fun e w' => e = .returned (.bool true) ∧ Below w.heap.size w w' := by
  by_cases hs : 200 < len2
  · have d0 : decide ((200 : Int) < (len2 : Int)) = true := by simp; omega
    clear hs hr2 hc2 b0 b1
    go_enter Try.func7, Try.ntmps7
    go_wp2_with fail
    refine (works _).mono ?_
    rintro e w2 ⟨rfl, bw⟩
    go_wp2_with fail
    go_ret
    exact ⟨rfl, bw⟩
  have hs : len2 ≤ 200 := by omega
  have d0 : decide ((200 : Int) < (len2 : Int)) = false := by simp; omega
  have P := fun W => hide (span_t a0 W b0)
  obtain ⟨sp1, sp2⟩ := sp_bd b0
  have N0 := fun W => hide (new_t (sp a0) W sp1 sp2)
  have HS := hide (And.intro sp1 sp2)
  have HR := hide hr2
  have B1 := hide b1
  clear sp1 sp2 b0 b1 hr2 hc2
  generalize sp a0 = n at *
  go_enter Try.func7, Try.ntmps7
  go_wp2_with fail
  clear d0
  refine (P _).out.mono ?_
  rintro e w' ⟨rfl, rfl⟩
  go_wp2_with fail
  refine (N0 _).out.mono ?_
  rintro e w1 ⟨rfl, C, B⟩
  have HB := hide B
  have HC := hide C
  have Q1 := hide (live_t C a1 B1.out)
  obtain ⟨b, hb⟩ : ∃ b, b = w.heap.size := ⟨_, rfl⟩
  rw [← hb] at HC Q1 ⊢
  have GB := hide (show w.heap.size ≤ b by omega)
  clear C B N0 hb P
  go_wp2_with fail
  refine Q1.out.mono ?_
  rintro e w' ⟨rfl, rfl⟩
  clear Q1
  go_wp2_with fail
  go_loopw [9, 10, 11] (fun p g i wr => ∃ (k : Nat) (t : Int) (gg : Bool), k ≤ len2 ∧ i = .int .i64 (k : Int) ∧ p = .bool (lv n t a1) ∧ g = .bool gg ∧ Hid (gg = true → a1 + n ≤ t) ∧ Hid (Cl wr b n t) ∧ Hid (Below w.heap.size w wr)) (fun _ _ i _ => len2 - (intOf i).toNat)
  case atStart => exact ⟨0, 0, false, by omega, rfl, rfl, rfl, hide (fun h => (by cases h)), HC, HB⟩
  case round =>
    obtain ⟨k, t, gg, hk, rfl, rfl, rfl, hG, hC, hB⟩ := hrel
    by_cases hlt : k < len2
    · have dk : decide ((k : Int) < (len2 : Int)) = true := by simp; omega
      obtain ⟨bs, off, rfl, hbs, hcell, hwf⟩ := rowsI_one HR.out hlt
      have HX := hide (wf_I64 hwf)
      have c0 : wr.cell? ⟨bs, off + k, none⟩ = some (.int .i64 (V2 k 0)) := by rw [(bcell hB.out).1 _ _ hbs]; exact hcell
      clear hcell hwf
      generalize V2 k 0 = x at *
      have hti := hide (show I64 t by have := hC.out.t0; have := hC.out.tn; have := hC.out.n1; unfold I64; omega)
      have W0 := hide (now_t hC.out)
      have E0 := hide (expiry_t hC.out t hti.out)
      have hf : I64 (t + n) := by have := hC.out.t0; have := hC.out.tn; have := hC.out.n1; unfold I64; omega
      rw [gv_ok hf, ge_ok hf] at E0
      have L0 := hide (live_t hC.out t hti.out)
      rw [show lv n t t = true by unfold lv; have := HS.out; simp; omega] at L0
      have A0 := hide (advance_t hC.out x HX.out)
      have T0 := hide (nx_le (t := t) HX.out HS.out.1 HS.out.2 hC.out.t0)
      clear hf
      generalize ck n t x = kk at *
      generalize nx n t x = u at *
      go_wp2_with fail
      refine W0.out.mono ?_
      rintro e w' ⟨rfl, rfl⟩
      go_wp2_with fail
      refine E0.out.mono ?_
      rintro e w' ⟨rfl, rfl⟩
      go_wp2_with fail
      refine L0.out.mono ?_
      rintro e w' ⟨rfl, rfl⟩
      go_wp2_with fail
      refine A0.out.mono ?_
      rintro e w2 ⟨rfl, C, K⟩
      have HB2 := hide (hB.out.trans (K.below (by simpa using GB.out) hB.out.size))
      have HC2 := hide C
      have Q1 := hide (live_t C t hti.out)
      rw [lv_self T0.out] at Q1
      have Q2 := hide (now_t C)
      have Q3 := hide (live_t C a1 B1.out)
      have g1 := hide (fun h => lv_gone (n := n) (Int.le_trans (hG.out h) T0.out))
      have g2 := hide (fun h1 h2 => gone_now (n := n) (a := a1) T0.out h1 h2)
      have g3 := hide (fun h => Int.le_trans (hG.out h) T0.out)
      clear C K W0 E0 L0 A0 c0 hB hC hG T0 hti
      generalize hp : lv n t a1 = p at *
      generalize hq : lv n u a1 = q at *
      have HQ := hide hq
      clear hp hq
      generalize t + n = y at *
      by_cases hy : u < y
      · have dy : decide (u < y) = true := by simp [hy]
        rw [dy] at Q1
        clear hy
        go_wp2_with fail
        refine Q1.out.mono ?_
        rintro e w' ⟨rfl, rfl⟩
        go_wp2_with fail
        refine Q2.out.mono ?_
        rintro e w' ⟨rfl, rfl⟩
        go_wp2_with fail
        refine Q3.out.mono ?_
        rintro e w' ⟨rfl, rfl⟩
        clear Q1 Q2 Q3 dy
        cases gg
        · cases p
          · go_wp2_with fail
            go_roundw
            case rel => exact ⟨k + 1, u, false, by omega, by go_num, by rw [HQ.out], rfl, hide (fun h => (by cases h)), HC2, HB2⟩
            case measure => simp [intOf]; omega
          · cases q
            · go_wp2_with fail
              go_roundw
              case rel => exact ⟨k + 1, u, true, by omega, by go_num, by rw [HQ.out], rfl, hide (fun _ => (by have := g2.out; simpa using this)), HC2, HB2⟩
              case measure => simp [intOf]; omega
            · go_wp2_with fail
              go_roundw
              case rel => exact ⟨k + 1, u, false, by omega, by go_num, by rw [HQ.out], rfl, hide (fun h => (by cases h)), HC2, HB2⟩
              case measure => simp [intOf]; omega
        · have g4 := g1.out rfl
          subst g4
          cases p
          · go_wp2_with fail
            go_roundw
            case rel => exact ⟨k + 1, u, true, by omega, by go_num, by rw [HQ.out], rfl, hide (fun _ => (by have := g3.out; simpa using this)), HC2, HB2⟩
            case measure => simp [intOf]; omega
          · go_wp2_with fail
            go_roundw
            case rel => exact ⟨k + 1, u, true, by omega, by go_num, by rw [HQ.out], rfl, hide (fun _ => (by have := g3.out; simpa using this)), HC2, HB2⟩
            case measure => simp [intOf]; omega
      · have dy : decide (u < y) = false := by simp; omega
        rw [dy] at Q1
        clear hy
        go_wp2_with fail
        refine Q1.out.mono ?_
        rintro e w' ⟨rfl, rfl⟩
        go_wp2_with fail
        refine Q2.out.mono ?_
        rintro e w' ⟨rfl, rfl⟩
        go_wp2_with fail
        refine Q3.out.mono ?_
        rintro e w' ⟨rfl, rfl⟩
        clear Q1 Q2 Q3 dy
        cases gg
        · cases p
          · go_wp2_with fail
            go_roundw
            case rel => exact ⟨k + 1, u, false, by omega, by go_num, by rw [HQ.out], rfl, hide (fun h => (by cases h)), HC2, HB2⟩
            case measure => simp [intOf]; omega
          · cases q
            · go_wp2_with fail
              go_roundw
              case rel => exact ⟨k + 1, u, true, by omega, by go_num, by rw [HQ.out], rfl, hide (fun _ => (by have := g2.out; simpa using this)), HC2, HB2⟩
              case measure => simp [intOf]; omega
            · go_wp2_with fail
              go_roundw
              case rel => exact ⟨k + 1, u, false, by omega, by go_num, by rw [HQ.out], rfl, hide (fun h => (by cases h)), HC2, HB2⟩
              case measure => simp [intOf]; omega
        · have g4 := g1.out rfl
          subst g4
          cases p
          · go_wp2_with fail
            go_roundw
            case rel => exact ⟨k + 1, u, true, by omega, by go_num, by rw [HQ.out], rfl, hide (fun _ => (by have := g3.out; simpa using this)), HC2, HB2⟩
            case measure => simp [intOf]; omega
          · go_wp2_with fail
            go_roundw
            case rel => exact ⟨k + 1, u, true, by omega, by go_num, by rw [HQ.out], rfl, hide (fun _ => (by have := g3.out; simpa using this)), HC2, HB2⟩
            case measure => simp [intOf]; omega
    · have : k = len2 := by omega
      subst this
      have dk : decide ((k : Int) < (k : Int)) = false := by simp
      go_wp2_with fail
      refine (works _).mono ?_
      rintro e w9 ⟨rfl, bw⟩
      have HW := hide bw
      clear bw
      go_wp2_with fail
      go_ret
      exact ⟨rfl, hB.out.trans (HW.out.mono hB.out.size)⟩
theorem own : ownKnob Try.prog.godebug = none := by kernel_rfl
theorem laidOut : laidOutB Try.prog = true := by kernel_rfl
set_option maxRecDepth 100000 in
theorem lifted (os : Os) (started : os.Started) (H : Type) (enc : TypeId × Value → H) :
    ReturnsInHanded {} Try.checked os 7 .any (Rows.clockExpiresSpec.pre6 enc Try.prog Try.f7 Rows.clockExpiresRow.domain false) (Rows.clockExpiresSpec.post enc Try.prog Try.f7 false true false false) := by
  refine returnsInHanded_of_change (C := Try.checked) own started (by kernel_rfl) Try.func7
    (ChangeSpec.witness6 (enc := enc) (C := Try.checked) false ⟨#[], #[.int .i64 0, .int .i64 0, .slice none 0 0], []⟩ 8 (by kernel_rfl) (by kernel_rfl) (by kernel_rfl) (by kernel_rfl)) ?_
  intro W base args ds gs before hval0 hW hcnd _
  have hval : ∀ (j : Nat) t v, Try.f7.params[j]? = some t → args[j]? = some v → Value.okWide Try.prog W .any base t v := hval0
  have hW' := hW
  obtain ⟨p, q, hA0, hV, rfl, hfz, hnd⟩ := hW
  have hA : DataW.TrodAll enc Try.prog W 0 (fun _ => true) true Try.f7.params.toList args.toList ds p := hA0
  rw [Try.params7] at hA hval
  obtain ⟨v0, vs0, d0, ds0, p0, q0, hargs, rfl, rfl, h0, r0⟩ := trodAll_cons hA
  obtain ⟨v1, vs1, d1, ds1, p1, q1, rfl, rfl, rfl, h1, r1⟩ := trodAll_cons r0
  obtain ⟨v2, vs2, d2, ds2, p2, q2, rfl, rfl, rfl, h2, r2⟩ := trodAll_cons r1
  obtain ⟨rfl, rfl, rfl⟩ := trodAll_nil r2
  obtain rfl : args = #[v0, v1, v2] := by cases args; simp_all
  obtain ⟨rfl, rfl⟩ := trodVars_none hV
  have k0 := h0
  have lt0 : ∀ x ∈ p0, x.block < W.heap.size := by obtain ⟨m, hm⟩ := k0; exact DataW.trod_lt m _ _ _ hm
  have k1 := h1
  have lt1 : ∀ x ∈ p1, x.block < W.heap.size := by obtain ⟨m, hm⟩ := k1; exact DataW.trod_lt m _ _ _ hm
  have k2 := h2
  have lt2 : ∀ x ∈ p2, x.block < W.heap.size := by obtain ⟨m, hm⟩ := k2; exact DataW.trod_lt m _ _ _ hm
  obtain ⟨a0, rfl, _, _, w0⟩ := open_int Try.underlying2 (hval 0 2 v0 rfl rfl) h0
  obtain ⟨a1, rfl, _, _, w1⟩ := open_int Try.underlying2 (hval 1 2 v1 rfl rfl) h1
  obtain ⟨s2, len2, cap2, rfl⟩ := okWide_slice Try.underlying40 (hval 2 40 v2 rfl rfl)
  obtain ⟨V2, hc2, hr2⟩ := rows_in Try.underlying40 (flat_int Try.underlying2 (by kernel_rfl)) (by decide) h2
  clear hA0 hval0
  refine (walk a0 a1 s2 len2 cap2 V2 W (bounds_i64 w0) (bounds_i64 w1) hc2 hr2).mono fun e W' ⟨he, bel⟩ => ?_
  subst he
  exact ⟨_, rfl, _, _, _, [], _, [], hW', trodAll_mk1 (shut_bool Try.underlying4 _), (trodAll_cons_mk (Below.trod laidOut (by kernel_rfl) (of_decide_eq_true (by kernel_rfl)) k0 bel lt0) (trodAll_cons_mk (Below.trod laidOut (by kernel_rfl) (of_decide_eq_true (by kernel_rfl)) k1 bel lt1) (trodAll_cons_mk (Below.trod laidOut (by kernel_rfl) (of_decide_eq_true (by kernel_rfl)) k2 bel lt2) trodAll_mk0))), rfl, bel.frame _, fun h => by cases h⟩
theorem holds : Rows.clockExpiresRow.holds Try.pinned (OpenSpec.ofChange Rows.clockExpiresSpec) :=
  OpenClaim.holds_of_wide 7 Try.f7 rfl rfl rfl rfl rfl rfl rfl ⟨rfl, rfl, rfl, rfl, rfl⟩ rfl rfl rfl rfl rfl (by kernel_rfl) Try.func7 (by kernel_rfl)
    (of_decide_eq_true (by kernel_rfl)) (by unfold Func.isWrapper; first | (rw [if_pos (by decide +kernel)]; kernel_rfl) | (rw [if_neg (by decide +kernel)]; exact ⟨rfl, rfl⟩))
    (fun os started H enc _ => lifted os started H enc)
theorem proved : Rows.ClockExpiresSaid := holds
end lawExpires
end Go.Proofs.Ytimjkkamfgafoaa
