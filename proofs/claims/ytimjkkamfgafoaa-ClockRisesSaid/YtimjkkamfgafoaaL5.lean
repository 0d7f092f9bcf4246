/- ClockRises holds: the time is the greatest one that was accepted; advancing to the time itself is accepted. -/
import Derived.Test.YtimjkkamfgafoaaC
import Derived.Test.YtimjkkamfgafoaaOp
import Derived.Test.YtimjkkamfgafoaaRows
import Derived.Deep.CutRange
set_option linter.unusedVariables false
set_option linter.unusedSimpArgs false
namespace Go.Proofs.Ytimjkkamfgafoaa
open Go.RowKit
theorem three (n t x : Int) : x < t ∨ (t ≤ x ∧ I64 (x + n)) ∨ (t ≤ x ∧ ¬ I64 (x + n)) := by
  rcases (show x < t ∨ t ≤ x by omega) with g | g
  · exact .inl g
  · by_cases hh : I64 (x + n)
    · exact .inr (.inl ⟨g, hh⟩)
    · exact .inr (.inr ⟨g, hh⟩)
namespace lawRises
open Go.ChangeShapes Go.WideShapes Go.ChangeAt Go.RowKit Go.Joins
set_option maxRecDepth 100000 in
set_option maxHeartbeats 16000000 in
theorem walk (a0 : Int) (s1 : Option Addr) (len1 cap1 : Nat) (V1 : Nat → Nat → Int) (w : World) (b0 : I64 a0) (hc1 : len1 ≤ cap1 ∧ cap1 ≤ maxLen) (hr1 : RowsI w s1 [.i64] len1 V1) : Calls Try.prog 5 #[.int .i64 a0, .slice s1 len1 cap1] w fun e w' => e = .returned (.bool true) ∧ Below w.heap.size w w' := by
  by_cases hs : 200 < len1
  · have d0 : decide ((200 : Int) < (len1 : Int)) = true := by simp; omega
    clear hs hr1 hc1 b0
    go_enter Try.func5, Try.ntmps5
    go_wp2_with fail
    refine (works _).mono ?_
    rintro e w2 ⟨rfl, bw⟩
    go_wp2_with fail
    go_ret
    exact ⟨rfl, bw⟩
  have hs : len1 ≤ 200 := by omega
  have d0 : decide ((200 : Int) < (len1 : Int)) = false := by simp; omega
  have P := fun W => hide (span_t a0 W b0)
  obtain ⟨sp1, sp2⟩ := sp_bd b0
  have N0 := fun W => hide (new_t (sp a0) W sp1 sp2)
  have HS := hide (And.intro sp1 sp2)
  have HR := hide hr1
  clear sp1 sp2 b0 hr1 hc1
  generalize sp a0 = n at *
  go_enter Try.func5, Try.ntmps5
  go_wp2_with fail
  clear d0
  refine (P _).out.mono ?_
  rintro e w' ⟨rfl, rfl⟩
  go_wp2_with fail
  refine (N0 _).out.mono ?_
  rintro e w1 ⟨rfl, C, B⟩
  have HB := hide B
  have HC := hide C
  have Q1 := hide (now_t C)
  have Q2 := hide (window_t C)
  obtain ⟨b, hb⟩ : ∃ b, b = w.heap.size := ⟨_, rfl⟩
  rw [← hb] at HC Q1 Q2 ⊢
  have GB := hide (show w.heap.size ≤ b by omega)
  clear C B N0 hb
  go_wp2_with fail
  refine Q1.out.mono ?_
  rintro e w' ⟨rfl, rfl⟩
  go_wp2_with fail
  refine Q2.out.mono ?_
  rintro e w' ⟨rfl, rfl⟩
  go_wp2_with fail
  refine (P _).out.mono ?_
  rintro e w' ⟨rfl, rfl⟩
  clear Q1 Q2 P
  go_wp2_with fail
  go_loopw [7, 8] (fun m i wr => ∃ (k : Nat) (t : Int), k ≤ len1 ∧ i = .int .i64 (k : Int) ∧ m = .int .i64 t ∧ Hid (Cl wr b n t) ∧ Hid (Below w.heap.size w wr)) (fun _ i _ => len1 - (intOf i).toNat)
  case atStart => exact ⟨0, 0, by omega, rfl, rfl, HC, HB⟩
  case round =>
    obtain ⟨k, t, hk, rfl, rfl, hC, hB⟩ := hrel
    by_cases hlt : k < len1
    · have dk : decide ((k : Int) < (len1 : Int)) = true := by simp; omega
      obtain ⟨bs, off, rfl, hbs, hcell, hwf⟩ := rowsI_one HR.out hlt
      have X := wf_I64 hwf
      have HX := hide X
      have hcs : ∀ W, Hid (Below w.heap.size w W) → W.cell? ⟨bs, off + k, none⟩ = some (.int .i64 (V1 k 0)) := fun W hW => by rw [(bcell hW.out).1 _ _ hbs]; exact hcell
      have c0 := hcs wr hB
      have HCS := hide hcs
      clear hcell hwf X hcs
      generalize V1 k 0 = x at *
      have K0 := hide (check_t hC.out x HX.out)
      have A0 := hide (advance_t hC.out x HX.out)
      rcases three n t x with h1 | ⟨h1, h2⟩ | ⟨h1, h2⟩
      · have d1 : decide (x < t) = true := by simp [h1]
        have ek := ck_lo (n := n) h1
        have en := nx_no (n := n) (t := t) (x := x) (by rw [ek]; decide)
        rw [ek] at K0 A0
        rw [en] at A0
        clear ek en h1
        go_wp2_with fail
        refine K0.out.mono ?_
        rintro e w' ⟨rfl, rfl⟩
        go_wp2_with fail
        refine A0.out.mono ?_
        rintro e w2 ⟨rfl, C, K⟩
        have HB2 := hide (hB.out.trans (K.below (by simpa using GB.out) hB.out.size))
        have c1 := HCS.out w2 HB2
        have Q1 := hide (now_t C)
        have Q2 := hide (check_t C t (by have := C.t0; have := C.tn; have := C.n1; unfold I64; omega))
        have Q3 := hide (advance_t C t (by have := C.t0; have := C.tn; have := C.n1; unfold I64; omega))
        have ek : ck n t t = 0 := by rw [ck_hi (by omega), ge_ok (by have := C.t0; have := C.tn; have := C.n1; unfold I64; omega)]
        rw [nx_ok ek, ek] at Q3
        rw [ek] at Q2
        clear C K K0 A0 c0 ek
        go_wp2_with fail
        refine Q1.out.mono ?_
        rintro e w' ⟨rfl, rfl⟩
        go_wp2_with fail
        refine Q2.out.mono ?_
        rintro e w' ⟨rfl, rfl⟩
        go_wp2_with fail
        refine Q3.out.mono ?_
        rintro e w3 ⟨rfl, C, K⟩
        have HB3 := hide (HB2.out.trans (K.below (by simpa using GB.out) HB2.out.size))
        have HC3 := hide C
        have Q4 := hide (now_t C)
        clear C K Q1 Q2 Q3 c1 HB2
        go_wp2_with fail
        refine Q4.out.mono ?_
        rintro e w' ⟨rfl, rfl⟩
        go_wp2_with fail
        go_roundw
        case rel => exact ⟨k + 1, t, by omega, by go_num, rfl, HC3, HB3⟩
        case measure => simp [intOf]; omega
      · have d1 : decide (x < t) = false := by simp; omega
        have ek : ck n t x = 0 := by rw [ck_hi (by omega), ge_ok h2]
        have en := nx_ok ek
        rw [ek] at K0 A0
        rw [en] at A0
        clear ek en h1 h2
        go_wp2_with fail
        refine K0.out.mono ?_
        rintro e w' ⟨rfl, rfl⟩
        go_wp2_with fail
        refine A0.out.mono ?_
        rintro e w2 ⟨rfl, C, K⟩
        have HB2 := hide (hB.out.trans (K.below (by simpa using GB.out) hB.out.size))
        have c1 := HCS.out w2 HB2
        have Q1 := hide (now_t C)
        have Q2 := hide (check_t C x (by have := C.t0; have := C.tn; have := C.n1; unfold I64; omega))
        have Q3 := hide (advance_t C x (by have := C.t0; have := C.tn; have := C.n1; unfold I64; omega))
        have ek : ck n x x = 0 := by rw [ck_hi (by omega), ge_ok (by have := C.t0; have := C.tn; have := C.n1; unfold I64; omega)]
        rw [nx_ok ek, ek] at Q3
        rw [ek] at Q2
        clear C K K0 A0 c0 ek
        go_wp2_with fail
        refine Q1.out.mono ?_
        rintro e w' ⟨rfl, rfl⟩
        go_wp2_with fail
        refine Q2.out.mono ?_
        rintro e w' ⟨rfl, rfl⟩
        go_wp2_with fail
        refine Q3.out.mono ?_
        rintro e w3 ⟨rfl, C, K⟩
        have HB3 := hide (HB2.out.trans (K.below (by simpa using GB.out) HB2.out.size))
        have HC3 := hide C
        have Q4 := hide (now_t C)
        clear C K Q1 Q2 Q3 c1 HB2
        go_wp2_with fail
        refine Q4.out.mono ?_
        rintro e w' ⟨rfl, rfl⟩
        go_wp2_with fail
        go_roundw
        case rel => exact ⟨k + 1, x, by omega, by go_num, rfl, HC3, HB3⟩
        case measure => simp [intOf]; omega
      · have d1 : decide (x < t) = false := by simp; omega
        have ek : ck n t x = 7 := by rw [ck_hi (by omega), ge_no h2]
        have en := nx_no (n := n) (t := t) (x := x) (by rw [ek]; decide)
        rw [ek] at K0 A0
        rw [en] at A0
        clear ek en h1 h2
        go_wp2_with fail
        refine K0.out.mono ?_
        rintro e w' ⟨rfl, rfl⟩
        go_wp2_with fail
        refine A0.out.mono ?_
        rintro e w2 ⟨rfl, C, K⟩
        have HB2 := hide (hB.out.trans (K.below (by simpa using GB.out) hB.out.size))
        have c1 := HCS.out w2 HB2
        have Q1 := hide (now_t C)
        have Q2 := hide (check_t C t (by have := C.t0; have := C.tn; have := C.n1; unfold I64; omega))
        have Q3 := hide (advance_t C t (by have := C.t0; have := C.tn; have := C.n1; unfold I64; omega))
        have ek : ck n t t = 0 := by rw [ck_hi (by omega), ge_ok (by have := C.t0; have := C.tn; have := C.n1; unfold I64; omega)]
        rw [nx_ok ek, ek] at Q3
        rw [ek] at Q2
        clear C K K0 A0 c0 ek
        go_wp2_with fail
        refine Q1.out.mono ?_
        rintro e w' ⟨rfl, rfl⟩
        go_wp2_with fail
        refine Q2.out.mono ?_
        rintro e w' ⟨rfl, rfl⟩
        go_wp2_with fail
        refine Q3.out.mono ?_
        rintro e w3 ⟨rfl, C, K⟩
        have HB3 := hide (HB2.out.trans (K.below (by simpa using GB.out) HB2.out.size))
        have HC3 := hide C
        have Q4 := hide (now_t C)
        clear C K Q1 Q2 Q3 c1 HB2
        go_wp2_with fail
        refine Q4.out.mono ?_
        rintro e w' ⟨rfl, rfl⟩
        go_wp2_with fail
        go_roundw
        case rel => exact ⟨k + 1, t, by omega, by go_num, rfl, HC3, HB3⟩
        case measure => simp [intOf]; omega
    · have : k = len1 := by omega
      subst this
      have dk : decide ((k : Int) < (k : Int)) = false := by simp
      go_wp2_with fail
      refine (works _).mono ?_
      rintro e w9 ⟨rfl, bw⟩
      have HW := hide bw
      clear bw
      go_wp2_with fail
      go_ret
      exact ⟨rfl, hB.out.trans (HW.out.mono hB.out.size)⟩
theorem own : ownKnob Try.prog.godebug = none := by kernel_rfl
theorem laidOut : laidOutB Try.prog = true := by kernel_rfl
set_option maxRecDepth 100000 in
theorem lifted (os : Os) (started : os.Started) (H : Type) (enc : TypeId × Value → H) :
    ReturnsInHanded {} Try.checked os 5 .any (Rows.clockRisesSpec.pre6 enc Try.prog Try.f5 Rows.clockRisesRow.domain false) (Rows.clockRisesSpec.post enc Try.prog Try.f5 false true false false) := by
  refine returnsInHanded_of_change (C := Try.checked) own started (by kernel_rfl) Try.func5
    (ChangeSpec.witness6 (enc := enc) (C := Try.checked) false ⟨#[], #[.int .i64 0, .slice none 0 0], []⟩ 8 (by kernel_rfl) (by kernel_rfl) (by kernel_rfl) (by kernel_rfl)) ?_
  intro W base args ds gs before hval0 hW hcnd _
  have hval : ∀ (j : Nat) t v, Try.f5.params[j]? = some t → args[j]? = some v → Value.okWide Try.prog W .any base t v := hval0
  have hW' := hW
  obtain ⟨p, q, hA0, hV, rfl, hfz, hnd⟩ := hW
  have hA : DataW.TrodAll enc Try.prog W 0 (fun _ => true) true Try.f5.params.toList args.toList ds p := hA0
  rw [Try.params5] at hA hval
  obtain ⟨v0, vs0, d0, ds0, p0, q0, hargs, rfl, rfl, h0, r0⟩ := trodAll_cons hA
  obtain ⟨v1, vs1, d1, ds1, p1, q1, rfl, rfl, rfl, h1, r1⟩ := trodAll_cons r0
  obtain ⟨rfl, rfl, rfl⟩ := trodAll_nil r1
  obtain rfl : args = #[v0, v1] := by cases args; simp_all
  obtain ⟨rfl, rfl⟩ := trodVars_none hV
  have k0 := h0
  have lt0 : ∀ x ∈ p0, x.block < W.heap.size := by obtain ⟨m, hm⟩ := k0; exact DataW.trod_lt m _ _ _ hm
  have k1 := h1
  have lt1 : ∀ x ∈ p1, x.block < W.heap.size := by obtain ⟨m, hm⟩ := k1; exact DataW.trod_lt m _ _ _ hm
  obtain ⟨a0, rfl, _, _, w0⟩ := open_int Try.underlying2 (hval 0 2 v0 rfl rfl) h0
  obtain ⟨s1, len1, cap1, rfl⟩ := okWide_slice Try.underlying40 (hval 1 40 v1 rfl rfl)
  obtain ⟨V1, hc1, hr1⟩ := rows_in Try.underlying40 (flat_int Try.underlying2 (by kernel_rfl)) (by decide) h1
  clear hA0 hval0
  refine (walk a0 s1 len1 cap1 V1 W (bounds_i64 w0) hc1 hr1).mono fun e W' ⟨he, bel⟩ => ?_
  subst he
  exact ⟨_, rfl, _, _, _, [], _, [], hW', trodAll_mk1 (shut_bool Try.underlying4 _), (trodAll_cons_mk (Below.trod laidOut (by kernel_rfl) (of_decide_eq_true (by kernel_rfl)) k0 bel lt0) (trodAll_cons_mk (Below.trod laidOut (by kernel_rfl) (of_decide_eq_true (by kernel_rfl)) k1 bel lt1) trodAll_mk0)), rfl, bel.frame _, fun h => by cases h⟩
theorem holds : Rows.clockRisesRow.holds Try.pinned (OpenSpec.ofChange Rows.clockRisesSpec) :=
  OpenClaim.holds_of_wide 5 Try.f5 rfl rfl rfl rfl rfl rfl rfl ⟨rfl, rfl, rfl, rfl, rfl⟩ rfl rfl rfl rfl rfl (by kernel_rfl) Try.func5 (by kernel_rfl)
    (of_decide_eq_true (by kernel_rfl)) (by unfold Func.isWrapper; first | (rw [if_pos (by decide +kernel)]; kernel_rfl) | (rw [if_neg (by decide +kernel)]; exact ⟨rfl, rfl⟩))
    (fun os started H enc _ => lifted os started H enc)
theorem proved : Rows.ClockRisesSaid := holds
end lawRises
end Go.Proofs.Ytimjkkamfgafoaa
