/- FenwickFinds holds: the units lie in the counters in order: Find of x is i exactly if x is from Prefix(i) to Prefix(i+1) - 1; behind the last unit there is none. -/
import Derived.Test.YtgcnccfmfnifbaaFY
import Derived.Test.YtgcnccfmfnifbaaOp
import Derived.Test.YtgcnccfmfnifbaaRows
import Derived.Deep.CutRange
import Derived.StillTailTactics
set_option linter.unusedVariables false
set_option linter.unusedSimpArgs false
namespace Go.Proofs.Ytgcnccfmfnifbaa
open Go.RowKit
namespace lawFinds
open Go.ChangeShapes Go.WideShapes Go.ChangeAt Go.RowKit Go.Joins
set_option maxRecDepth 100000 in
set_option maxHeartbeats 16000000 in
theorem walk (s0 : Option Addr) (len0 cap0 : Nat) (V0 : Nat → Nat → Int) (a1 : Int) (w : World) (hc0 : len0 ≤ cap0 ∧ cap0 ≤ maxLen) (hr0 : RowsI w s0 [.u16] len0 V0) (b1 : -9223372036854775808 ≤ a1 ∧ a1 ≤ 9223372036854775807) : Calls Try.prog 7 #[.slice s0 len0 cap0, .int .i64 a1] w fun e w' => e = .returned (.bool true) ∧ Below w.heap.size w w' := by
  have WK := hide works_t
  by_cases h2 : 300 < len0
  · have d : decide ((300 : Int) < (len0 : Int)) = true := by simp; omega
    clear hc0 hr0 b1 h2
    go_enter Try.func7, Try.ntmps7
    go_wp2_with fail
    refine (WK.out _).mono ?_
    rintro e w1 ⟨rfl, k1⟩
    have K1 := hide k1
    clear k1
    go_wp2_with fail
    go_ret
    exact ⟨rfl, K1.out.below (by simp) (Nat.le_refl _)⟩
  have d : decide ((300 : Int) < (len0 : Int)) = false := by simp; omega
  have HN := hide (show len0 ≤ 300 by omega)
  have RD := hide (rd16_arg hr0)
  have FL := hide (filled_t (c := cap0) RD.out HN.out)
  have hlen : len0 ≤ 300 := HN.out
  have HA := hide b1
  clear hc0 hr0 b1 h2
  go_enter Try.func7, Try.ntmps7
  go_wp2_with fail
  refine FL.out.mono ?_
  rintro e w1 ⟨b, own, rfl, f1, ho, k1⟩
  have K1 := hide k1
  have AS := hide f1.asks
  have SB := hide (sumS_lC RD.out)
  have SN := hide f1.nn
  have LI := hide (fun i (h : i < len0) => lC_in V0 h)
  have HR := hide (RD.out.below k1)
  generalize lC len0 V0 = C at *
  clear f1 ho k1 FL
  go_wp2_with fail
  go_loopw [6] (fun i wr => ∃ I : Nat, I ≤ len0 ∧ i = .int .i64 (I : Int) ∧ Hid (Kp [] w1 wr)) (fun i _ => len0 - (intOf i).toNat)
  case atStart => exact ⟨0, Nat.zero_le _, rfl, hide (Kp.refl _ _)⟩
  case round =>
    obtain ⟨I, hI, rfl, hK⟩ := hrel
    by_cases hlt : I < len0
    · have dk : decide (I < len0) = true := by simpa using hlt
      have dk' : decide ((I : Int) < (len0 : Int)) = true := by simpa using hlt
      have bI : (I : Int) < (len0 : Int) := by omega
      have wI : IntKind.i64.wrap ((I : Int) + 1) = (I : Int) + 1 := by rw [IntKind.wrap_i64]; omega
      rcases HR.out with h0 | ⟨bs, off, rfl, hbs, hc⟩
      · omega
      obtain ⟨e1, v1, v2⟩ := hc I hlt
      have c0 := (hK.out.at hbs (off + I)).trans e1
      have sI : sumS C (I + 1) = sumS C I + V0 I 0 := by rw [sumS, LI.out I hlt]
      have HS := hide sI
      generalize V0 I 0 = x at *
      have HLT := hide hlt
      clear hc hbs sI e1 hlt
      by_cases hx : x = 0
      · subst hx
        clear v1 v2 HS
        go_wp2_with fail
        go_roundw
        case rel => exact ⟨I + 1, by have := HLT.out; omega, by go_num, hK⟩
        case measure => have := HLT.out; simp [intOf]; omega
      · have dx : decide (x = 0) = false := by simpa using hx
        have p1 := AS.out.pre
        have AP := hide (fun W (kW : Kp [] w1 W) => AS.out.pre W kW (I : Int))
        rw [clip_nat (show I ≤ len0 by have := HLT.out; omega)] at AP
        have AQ := hide (fun W (kW : Kp [] w1 W) => AS.out.pre W kW ((I : Int) + 1))
        rw [show ((I : Int) + 1) = ((I + 1 : Nat) : Int) by omega, clip_nat (show I + 1 ≤ len0 by have := HLT.out; omega), HS.out] at AQ
        simp only [Int.natCast_add, Int.cast_ofNat_Int] at AQ
        have FA := hide (fun e (f : FindA C len0 (sumS C I) e) => find_yes f SN.out HLT.out (Int.le_refl _) (by rw [HS.out]; omega))
        have FB := hide (fun e (f : FindA C len0 (sumS C I + x - 1) e) => find_yes (i := I) f SN.out HLT.out (by omega) (by rw [HS.out]; omega))
        have sB := SB.out I
        have sN := sumS_mono SN.out (Nat.zero_le I)
        have s0' : sumS C 0 = 0 := rfl
        rw [s0'] at sN
        obtain ⟨S, hS⟩ : ∃ S, S = sumS C I := ⟨_, rfl⟩
        rw [← hS] at AP AQ FA FB sB sN
        have x1 : IntKind.i64.wrap (S + x - 1) = S + x - 1 := by have := HLT.out; rw [IntKind.wrap_i64]; omega
        have x2 : wrap64 (S + x - 1) = S + x - 1 := by have := HLT.out; unfold wrap64; omega
        clear v1 v2 hS sB sN s0' HS p1
        go_wp2_with fail
        refine (AP.out _ hK.out).mono ?_
        rintro e w2 ⟨rfl, k2⟩
        clear hK c0
        have K := hide k2
        clear k2
        go_wp2_with fail
        refine (AS.out.find _ K.out _).mono ?_
        rintro e w3 ⟨f, k2⟩
        obtain rfl := FA.out _ f
        clear K f
        have K := hide k2
        clear k2
        go_wp2_with fail
        refine (AQ.out _ K.out).mono ?_
        rintro e w4 ⟨rfl, k2⟩
        clear K
        have K := hide k2
        clear k2
        go_wp2_with fail
        refine (AS.out.find _ K.out _).mono ?_
        rintro e w5 ⟨f, k2⟩
        obtain rfl := FB.out _ f
        clear K f
        have K := hide k2
        clear k2
        go_wp2_with fail
        go_roundw
        case rel => exact ⟨I + 1, by have := HLT.out; omega, by go_num, K⟩
        case measure => have := HLT.out; simp [intOf]; omega
    · have hE : I = len0 := by omega
      subst hE
      have dk : decide (I < I) = false := by simp
      have dk' : decide ((I : Int) < (I : Int)) = false := by simp
      have K := hide hK.out
      have FZ := hide (fun e (f : FindA C I (sumS C I) e) => find_no f (by omega))
      have FM := hide (fun e (f : FindA C I (-1) e) => find_no f (by omega))
      clear hlt hK
      go_wp2_with fail
      refine (AS.out.find _ K.out _).mono ?_
      rintro e w2 ⟨f, k2⟩
      clear K
      have K := hide k2
      clear k2
      rcases f with ⟨g1, g2, j, hj, h3, h4, rfl⟩ | ⟨hn, rfl⟩
      · have d1 : decide (0 ≤ a1) = true := by simpa using g1
        have d2 : decide (a1 < sumS C I) = true := by simpa using g2
        have d3 : decide (sumS C j ≤ a1) = true := by simpa using h3
        have d4 : decide (a1 < sumS C (j + 1)) = true := by simpa using h4
        have AP := hide (fun W (kW : Kp [] w1 W) => AS.out.pre W kW (j : Int))
        rw [clip_nat (show j ≤ I by omega)] at AP
        have AQ := hide (fun W (kW : Kp [] w1 W) => AS.out.pre W kW ((j : Int) + 1))
        rw [show ((j : Int) + 1) = ((j + 1 : Nat) : Int) by omega, clip_nat (show j + 1 ≤ I by omega)] at AQ
        simp only [Int.natCast_add, Int.cast_ofNat_Int] at AQ
        have wj : IntKind.i64.wrap ((j : Int) + 1) = (j : Int) + 1 := by rw [IntKind.wrap_i64]; omega
        generalize sumS C (j + 1) = sq at *
        generalize sumS C j = sp at *
        have HJ := hide hj
        clear g1 g2 h3 h4 hj
        go_wp2_with fail
        refine (AS.out.tot _ K.out).mono ?_
        rintro e w3 ⟨rfl, k2⟩
        clear K
        have K := hide k2
        clear k2
        go_wp2_with fail
        refine (AS.out.tot _ K.out).mono ?_
        rintro e w4 ⟨rfl, k2⟩
        clear K
        have K := hide k2
        clear k2
        go_wp2_with fail
        refine (AS.out.find _ K.out _).mono ?_
        rintro e w5 ⟨f, k2⟩
        obtain rfl := FZ.out _ f
        clear K f
        have K := hide k2
        clear k2
        go_wp2_with fail
        refine (AS.out.find _ K.out _).mono ?_
        rintro e w6 ⟨f, k2⟩
        obtain rfl := FM.out _ f
        clear K f
        have K := hide k2
        clear k2
        go_wp2_with fail
        refine (AP.out _ K.out).mono ?_
        rintro e w7 ⟨rfl, k2⟩
        clear K
        have K := hide k2
        clear k2
        go_wp2_with fail
        refine (AQ.out _ K.out).mono ?_
        rintro e w8 ⟨rfl, k2⟩
        clear K
        have K := hide k2
        clear k2
        go_wp2_with fail
        refine (WK.out _).mono ?_
        rintro e w9 ⟨rfl, k2⟩
        have K' := hide (K1.out.trans0 (K.out.trans0 k2))
        clear k2
        go_wp2_with fail
        go_ret
        exact ⟨rfl, K'.out.below (by simp) (Nat.le_refl _)⟩
      · by_cases g1 : 0 ≤ a1
        · have d1 : decide (0 ≤ a1) = true := by simpa using g1
          have d2 : decide (a1 < sumS C I) = false := by simp; omega
          clear g1 hn
          go_wp2_with fail
          refine (AS.out.tot _ K.out).mono ?_
          rintro e w3 ⟨rfl, k2⟩
          clear K
          have K := hide k2
          clear k2
          go_wp2_with fail
          refine (AS.out.tot _ K.out).mono ?_
          rintro e w4 ⟨rfl, k2⟩
          clear K
          have K := hide k2
          clear k2
          go_wp2_with fail
          refine (AS.out.find _ K.out _).mono ?_
          rintro e w5 ⟨f, k2⟩
          obtain rfl := FZ.out _ f
          clear K f
          have K := hide k2
          clear k2
          go_wp2_with fail
          refine (AS.out.find _ K.out _).mono ?_
          rintro e w6 ⟨f, k2⟩
          obtain rfl := FM.out _ f
          clear K f
          have K := hide k2
          clear k2
          go_wp2_with fail
          refine (WK.out _).mono ?_
          rintro e w9 ⟨rfl, k2⟩
          have K' := hide (K1.out.trans0 (K.out.trans0 k2))
          clear k2
          go_wp2_with fail
          go_ret
          exact ⟨rfl, K'.out.below (by simp) (Nat.le_refl _)⟩
        · have d1 : decide (0 ≤ a1) = false := by simpa using g1
          clear g1 hn
          go_wp2_with fail
          refine (AS.out.tot _ K.out).mono ?_
          rintro e w4 ⟨rfl, k2⟩
          clear K
          have K := hide k2
          clear k2
          go_wp2_with fail
          refine (AS.out.find _ K.out _).mono ?_
          rintro e w5 ⟨f, k2⟩
          obtain rfl := FZ.out _ f
          clear K f
          have K := hide k2
          clear k2
          go_wp2_with fail
          refine (AS.out.find _ K.out _).mono ?_
          rintro e w6 ⟨f, k2⟩
          obtain rfl := FM.out _ f
          clear K f
          have K := hide k2
          clear k2
          go_wp2_with fail
          refine (WK.out _).mono ?_
          rintro e w9 ⟨rfl, k2⟩
          have K' := hide (K1.out.trans0 (K.out.trans0 k2))
          clear k2
          go_wp2_with fail
          go_ret
          exact ⟨rfl, K'.out.below (by simp) (Nat.le_refl _)⟩
theorem own : ownKnob Try.prog.godebug = none := by kernel_rfl
theorem laidOut : laidOutB Try.prog = true := by kernel_rfl
set_option maxRecDepth 100000 in
theorem lifted (os : Os) (started : os.Started) (H : Type) (enc : TypeId × Value → H) :
    ReturnsInHanded {} Try.checked os 7 .any (Rows.fenwickFindsSpec.pre6 enc Try.prog Try.f7 Rows.fenwickFindsRow.domain false) (Rows.fenwickFindsSpec.post enc Try.prog Try.f7 false true false false) := by
  refine returnsInHanded_of_change (C := Try.checked) own started (by kernel_rfl) Try.func7
    (ChangeSpec.witness6 (enc := enc) (C := Try.checked) false ⟨#[], #[.slice none 0 0, .int .i64 0], []⟩ 8 (by kernel_rfl) (by kernel_rfl) (by kernel_rfl) (by kernel_rfl)) ?_
  intro W base args ds gs before hval0 hW hcnd _
  have hval : ∀ (j : Nat) t v, Try.f7.params[j]? = some t → args[j]? = some v → Value.okWide Try.prog W .any base t v := hval0
  have hW' := hW
  obtain ⟨p, q, hA0, hV, rfl, hfz, hnd⟩ := hW
  have hA : DataW.TrodAll enc Try.prog W 0 (fun _ => true) true Try.f7.params.toList args.toList ds p := hA0
  rw [Try.params7] at hA hval
  obtain ⟨v0, vs0, d0, ds0, p0, q0, hargs, rfl, rfl, h0, r0⟩ := trodAll_cons hA
  obtain ⟨v1, vs1, d1, ds1, p1, q1, rfl, rfl, rfl, h1, r1⟩ := trodAll_cons r0
  obtain ⟨rfl, rfl, rfl⟩ := trodAll_nil r1
  obtain rfl : args = #[v0, v1] := by cases args; simp_all
  obtain ⟨rfl, rfl⟩ := trodVars_none hV
  have k0 := h0
  have lt0 : ∀ x ∈ p0, x.block < W.heap.size := by obtain ⟨m, hm⟩ := k0; exact DataW.trod_lt m _ _ _ hm
  have k1 := h1
  have lt1 : ∀ x ∈ p1, x.block < W.heap.size := by obtain ⟨m, hm⟩ := k1; exact DataW.trod_lt m _ _ _ hm
  obtain ⟨s0, len0, cap0, rfl⟩ := okWide_slice Try.underlying50 (hval 0 50 v0 rfl rfl)
  obtain ⟨V0, hc0, hr0⟩ := rows_in Try.underlying50 (flat_int Try.underlying51 (by kernel_rfl)) (by decide) h0
  obtain ⟨a1, rfl, _, _, w1⟩ := open_int Try.underlying2 (hval 1 2 v1 rfl rfl) h1
  clear hA0 hval0
  refine (walk s0 len0 cap0 V0 a1 W hc0 hr0 (bounds_i64 w1)).mono fun e W' ⟨he, bel⟩ => ?_
  subst he
  exact ⟨_, rfl, _, _, _, [], _, [], hW', trodAll_mk1 (shut_bool Try.underlying4 _), (trodAll_cons_mk (Below.trod laidOut (by kernel_rfl) (of_decide_eq_true (by kernel_rfl)) k0 bel lt0) (trodAll_cons_mk (Below.trod laidOut (by kernel_rfl) (of_decide_eq_true (by kernel_rfl)) k1 bel lt1) trodAll_mk0)), rfl, bel.frame _, fun h => by cases h⟩
theorem holds : Rows.fenwickFindsRow.holds Try.pinned (OpenSpec.ofChange Rows.fenwickFindsSpec) :=
  OpenClaim.holds_of_wide 7 Try.f7 rfl rfl rfl rfl rfl rfl rfl ⟨rfl, rfl, rfl, rfl, rfl⟩ rfl rfl rfl rfl rfl (by kernel_rfl) Try.func7 (by kernel_rfl)
    (of_decide_eq_true (by kernel_rfl)) (by unfold Func.isWrapper; first | (rw [if_pos (by decide +kernel)]; kernel_rfl) | (rw [if_neg (by decide +kernel)]; exact ⟨rfl, rfl⟩))
    (fun os started H enc _ => lifted os started H enc)
theorem proved : Rows.FenwickFindsSaid := holds
end lawFinds
end Go.Proofs.Ytgcnccfmfnifbaa
