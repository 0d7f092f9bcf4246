/- FenwickSums holds: each counter is the difference of two prefixes, prefixes do not decrease, the last one is the total, and ranges that follow one another add up. -/
import Derived.Test.YtgcnccfmfnifbaaFY
import Derived.Test.YtgcnccfmfnifbaaOp
import Derived.Test.YtgcnccfmfnifbaaRows
import Derived.Deep.CutRange
import Derived.StillTailTactics
set_option linter.unusedVariables false
set_option linter.unusedSimpArgs false
namespace Go.Proofs.Ytgcnccfmfnifbaa
open Go.RowKit
namespace lawSums
open Go.ChangeShapes Go.WideShapes Go.ChangeAt Go.RowKit Go.Joins
set_option maxRecDepth 100000 in
set_option maxHeartbeats 16000000 in
theorem walk (s0 : Option Addr) (len0 cap0 : Nat) (V0 : Nat → Nat → Int) (a1 : Int) (a2 : Int) (a3 : Int) (w : World) (hc0 : len0 ≤ cap0 ∧ cap0 ≤ maxLen) (hr0 : RowsI w s0 [.u16] len0 V0) (b1 : 0 ≤ a1 ∧ a1 ≤ 65535) (b2 : 0 ≤ a2 ∧ a2 ≤ 65535) (b3 : 0 ≤ a3 ∧ a3 ≤ 65535) : Calls Try.prog 6 #[.slice s0 len0 cap0, .int .u16 a1, .int .u16 a2, .int .u16 a3] w fun e w' => e = .returned (.bool true) ∧ Below w.heap.size w w' := by
  have WK := hide works_t
  by_cases h2 : 300 < len0
  · have d : decide ((300 : Int) < (len0 : Int)) = true := by simp; omega
    clear hc0 hr0 b1 b2 b3 h2
    go_enter Try.func6, Try.ntmps6
    go_wp2_with fail
    refine (WK.out _).mono ?_
    rintro e w1 ⟨rfl, k1⟩
    have K1 := hide k1
    clear k1
    go_wp2_with fail
    go_ret
    exact ⟨rfl, K1.out.below (by simp) (Nat.le_refl _)⟩
  have d : decide ((300 : Int) < (len0 : Int)) = false := by simp; omega
  have HN := hide (show len0 ≤ 300 by omega)
  have RD := hide (rd16_arg hr0)
  have FL := hide (filled_t (c := cap0) RD.out HN.out)
  have idx : ∀ a : Int, 0 ≤ a → ∃ i : Nat, a.tmod ((len0 : Int) + 1) = (i : Int) ∧ i ≤ len0 := fun a ha => by
    refine ⟨(a % ((len0 : Int) + 1)).toNat, ?_, ?_⟩
    · rw [Int.tmod_eq_emod_of_nonneg ha]
      have := Int.emod_nonneg a (show ((len0 : Int) + 1) ≠ 0 by omega); omega
    · have := Int.emod_lt_of_pos a (show (0 : Int) < (len0 : Int) + 1 by omega); omega
  obtain ⟨i, ti, hi⟩ := idx a1 b1.1
  obtain ⟨j, tj, hj⟩ := idx a2 b2.1
  obtain ⟨k, tk, hk⟩ := idx a3 b3.1
  have w1 : IntKind.i64.wrap a1 = a1 := by rw [IntKind.wrap_i64]; omega
  have w2 : IntKind.i64.wrap a2 = a2 := by rw [IntKind.wrap_i64]; omega
  have w3 : IntKind.i64.wrap a3 = a3 := by rw [IntKind.wrap_i64]; omega
  have wi : IntKind.i64.wrap (i : Int) = (i : Int) := by rw [IntKind.wrap_i64]; omega
  have wj : IntKind.i64.wrap (j : Int) = (j : Int) := by rw [IntKind.wrap_i64]; omega
  have wk : IntKind.i64.wrap (k : Int) = (k : Int) := by rw [IntKind.wrap_i64]; omega
  have wl : IntKind.i64.wrap ((len0 : Int) + 1) = (len0 : Int) + 1 := by rw [IntKind.wrap_i64]; omega
  obtain ⟨p, q, s, t, u, v, o1, o2, o3, o4, o5, o6, huv, hvt, htn⟩ := sort3 i j k len0 hi hj hk
  have HOO := hide (And.intro o1 (And.intro o2 (And.intro o3 (And.intro o4 (And.intro o5 o6)))))
  have HO := hide (show u ≤ v ∧ v ≤ t ∧ t ≤ len0 from ⟨huv, hvt, htn⟩)
  have la0 : 0 ≤ a1 ∧ 0 ≤ a2 ∧ 0 ≤ a3 ∧ a1 ≤ 65535 ∧ a2 ≤ 65535 ∧ a3 ≤ 65535 := ⟨b1.1, b2.1, b3.1, b1.2, b2.2, b3.2⟩
  obtain ⟨la1, la2, la3, la4, la5, la6⟩ := la0
  have hlen : len0 ≤ 300 := HN.out
  clear hc0 hr0 b1 b2 b3 h2 idx hi hj hk huv hvt htn o1 o2 o3 o4 o5 o6
  go_enter Try.func6, Try.ntmps6
  go_wp2_with fail
  refine FL.out.mono ?_
  rintro e w1 ⟨b, own, rfl, f1, ho, k1⟩
  have K1 := hide k1
  have AS := hide f1.asks
  have SB := hide (sumS_lC RD.out)
  have SN := hide f1.nn
  have LI := hide (fun i (h : i < len0) => lC_in V0 h)
  have HR := hide (RD.out.below k1)
  generalize lC len0 V0 = C at *
  clear f1 ho k1 FL
  go_wp2_with fail
  go_loopw [10, 11] (fun sm i wr => ∃ I : Nat, I ≤ len0 ∧ sm = .int .i64 (sumS C I) ∧ i = .int .i64 (I : Int) ∧ Hid (Kp [] w1 wr)) (fun _ i _ => len0 - (intOf i).toNat)
  case atStart => exact ⟨0, Nat.zero_le _, rfl, rfl, hide (Kp.refl _ _)⟩
  case round =>
    obtain ⟨I, hI, rfl, rfl, hK⟩ := hrel
    by_cases hlt : I < len0
    · have dk : decide (I < len0) = true := by simpa using hlt
      have dk' : decide ((I : Int) < (len0 : Int)) = true := by simpa using hlt
      have bI : (I : Int) < (len0 : Int) := by omega
      have wI : IntKind.i64.wrap ((I : Int) + 1) = (I : Int) + 1 := by rw [IntKind.wrap_i64]; omega
      rcases HR.out with h0 | ⟨bs, off, rfl, hbs, hc⟩
      · omega
      obtain ⟨e1, v1, v2⟩ := hc I hlt
      have CE := hide (fun W (kW : Kp [] w1 W) => (kW.at hbs (off + I)).trans e1)
      have cI : clipN (I : Int) len0 = I := clip_nat hI
      have AP := hide (fun W (kW : Kp [] w1 W) => AS.out.pre W kW (I : Int))
      rw [cI] at AP
      have AG := hide (fun W (kW : Kp [] w1 W) => AS.out.get W kW (I : Int))
      rw [getN hlt, LI.out I hlt] at AG
      have sI : sumS C (I + 1) = sumS C I + V0 I 0 := by rw [sumS, LI.out I hlt]
      have sB := SB.out I
      have sN := sumS_mono SN.out (Nat.zero_le I)
      have s0' : sumS C 0 = 0 := rfl
      rw [s0'] at sN
      have HS := hide sI
      generalize V0 I 0 = x at *
      obtain ⟨S, hS⟩ : ∃ S, S = sumS C I := ⟨_, rfl⟩
      rw [← hS] at AP sB sN HS
      rw [← hS]
      have wv : IntKind.i64.wrap x = x := by rw [IntKind.wrap_i64]; omega
      have wv' : wrap64 x = x := by unfold wrap64; omega
      have ws : IntKind.i64.wrap (S + x) = S + x := by rw [IntKind.wrap_i64]; omega
      have ws' : wrap64 (S + x) = S + x := by unfold wrap64; omega
      have kd : Kp [] w1 wr.drew := hK.out.trans0 (Kp.drewN [] wr 1)
      have c0 : wr.drew.cell? ⟨bs, off + I, none⟩ = some (.int .u16 x) := CE.out _ kd
      have HLT := hide hlt
      clear hc hlt hbs cI sI s0' hS e1 sB sN v1 v2
      go_wp2_with fail
      go_region_held3 (fun w' => w'.cell? ⟨bs, off + I, none⟩ = some (.int .u16 x)) (first | with_reducible assumption)
        (first
          | ((with_reducible (refine (AP.out _ (by with_reducible assumption)).mono ?_)); rintro e w2 ⟨rfl, k2⟩; have c2 : w2.cell? ⟨bs, off + I, none⟩ = some (.int .u16 x) := CE.out _ k2)
          | ((with_reducible (refine (AG.out _ (by with_reducible assumption)).mono ?_)); rintro e w3 ⟨rfl, k3⟩; have c3 : w3.cell? ⟨bs, off + I, none⟩ = some (.int .u16 x) := CE.out _ k3))
      have K3 := hide k3
      clear k2 c2 c0 kd k3
      go_wp2_with fail
      go_roundw
      case rel => exact ⟨I + 1, by have := HLT.out; omega, by rw [HS.out], by go_num, K3⟩
      case measure => have := HLT.out; simp [intOf]; omega
    · have hE : I = len0 := by omega
      subst hE
      have dk : decide (I < I) = false := by simp
      have dk' : decide ((I : Int) < (I : Int)) = false := by simp
      clear hlt
      go_wp2_with fail
      obtain ⟨S, hS⟩ : ∃ S, S = sumS C I := ⟨_, rfl⟩
      have AP := hide (fun W (kW : Kp [] w1 W) => AS.out.pre W kW (I : Int))
      rw [clip_nat (Nat.le_refl _), ← hS] at AP
      have AT := hide AS.out.tot
      rw [← hS] at AT ⊢
      have AV := hide (fun W (kW : Kp [] w1 W) => AS.out.pre W kW (v : Int))
      have AU := hide (fun W (kW : Kp [] w1 W) => AS.out.pre W kW (u : Int))
      obtain ⟨h1, h2, h3⟩ := HO.out
      rw [clip_nat (by omega)] at AV AU
      have R1 := hide (fun W (kW : Kp [] w1 W) => AS.out.rng W kW (u : Int) (v : Int))
      have R2 := hide (fun W (kW : Kp [] w1 W) => AS.out.rng W kW (v : Int) (t : Int))
      have R3 := hide (fun W (kW : Kp [] w1 W) => AS.out.rng W kW (u : Int) (t : Int))
      have R4 := hide (fun W (kW : Kp [] w1 W) => AS.out.rng W kW (v : Int) (u : Int))
      rw [rngN (by omega) (by omega)] at R1 R2 R3
      rw [rng0 (by omega)] at R4
      have m1 := sumS_mono SN.out h1
      have m2 := sumS_mono SN.out h2
      have m0 := sumS_mono SN.out (Nat.zero_le u)
      have m9 : sumS C 0 = 0 := rfl
      rw [m9] at m0
      have mt := SB.out t
      generalize sumS C u = su at *
      generalize sumS C v = sv at *
      generalize sumS C t = st at *
      have x1 : IntKind.i64.wrap (sv - su) = sv - su := by rw [IntKind.wrap_i64]; omega
      have x2 : wrap64 (sv - su) = sv - su := by unfold wrap64; omega
      have x3 : IntKind.i64.wrap (sv - su + (st - sv)) = st - su := by rw [IntKind.wrap_i64]; omega
      have x4 : wrap64 (sv - su + (st - sv)) = st - su := by unfold wrap64; omega
      have K := hide hK.out
      clear h1 h2 h3 m1 m2 m0 m9 mt hS AS
      obtain ⟨o1, o2, o3, o4, o5, o6⟩ := HOO.out
      go_quiet (fail)
      go_wp2_with fail
      refine (AP.out _ (K.out.trans0 (Kp.drewN [] _ _))).mono ?_
      rintro e w2 ⟨rfl, k2⟩
      clear K
      have K := hide k2
      clear k2
      go_wp2_with fail
      refine (AT.out _ K.out).mono ?_
      rintro e w3 ⟨rfl, k2⟩
      clear K
      have K := hide k2
      clear k2
      go_wp2_with fail
      refine (R1.out _ K.out).mono ?_
      rintro e w4 ⟨rfl, k2⟩
      clear K
      have K := hide k2
      clear k2
      go_wp2_with fail
      refine (R2.out _ K.out).mono ?_
      rintro e w5 ⟨rfl, k2⟩
      clear K
      have K := hide k2
      clear k2
      go_wp2_with fail
      refine (R3.out _ K.out).mono ?_
      rintro e w6 ⟨rfl, k2⟩
      clear K
      have K := hide k2
      clear k2
      go_wp2_with fail
      refine (R1.out _ K.out).mono ?_
      rintro e w7 ⟨rfl, k2⟩
      clear K
      have K := hide k2
      clear k2
      go_wp2_with fail
      refine (AV.out _ K.out).mono ?_
      rintro e w8 ⟨rfl, k2⟩
      clear K
      have K := hide k2
      clear k2
      go_wp2_with fail
      refine (AU.out _ K.out).mono ?_
      rintro e w9 ⟨rfl, k2⟩
      clear K
      have K := hide k2
      clear k2
      go_wp2_with fail
      refine (R4.out _ K.out).mono ?_
      rintro e w10 ⟨rfl, k2⟩
      clear K
      have K := hide k2
      clear k2
      go_wp2_with fail
      refine (WK.out _).mono ?_
      rintro e w11 ⟨rfl, k2⟩
      have K' := hide (K1.out.trans0 (K.out.trans0 k2))
      clear k2
      go_wp2_with fail
      go_ret
      exact ⟨rfl, K'.out.below (by simp) (Nat.le_refl _)⟩
theorem own : ownKnob Try.prog.godebug = none := by kernel_rfl
theorem laidOut : laidOutB Try.prog = true := by kernel_rfl
set_option maxRecDepth 100000 in
theorem lifted (os : Os) (started : os.Started) (H : Type) (enc : TypeId × Value → H) :
    ReturnsInHanded {} Try.checked os 6 .any (Rows.fenwickSumsSpec.pre6 enc Try.prog Try.f6 Rows.fenwickSumsRow.domain false) (Rows.fenwickSumsSpec.post enc Try.prog Try.f6 false true false false) := by
  refine returnsInHanded_of_change (C := Try.checked) own started (by kernel_rfl) Try.func6
    (ChangeSpec.witness6 (enc := enc) (C := Try.checked) false ⟨#[], #[.slice none 0 0, .int .u16 0, .int .u16 0, .int .u16 0], []⟩ 8 (by kernel_rfl) (by kernel_rfl) (by kernel_rfl) (by kernel_rfl)) ?_
  intro W base args ds gs before hval0 hW hcnd _
  have hval : ∀ (j : Nat) t v, Try.f6.params[j]? = some t → args[j]? = some v → Value.okWide Try.prog W .any base t v := hval0
  have hW' := hW
  obtain ⟨p, q, hA0, hV, rfl, hfz, hnd⟩ := hW
  have hA : DataW.TrodAll enc Try.prog W 0 (fun _ => true) true Try.f6.params.toList args.toList ds p := hA0
  rw [Try.params6] at hA hval
  obtain ⟨v0, vs0, d0, ds0, p0, q0, hargs, rfl, rfl, h0, r0⟩ := trodAll_cons hA
  obtain ⟨v1, vs1, d1, ds1, p1, q1, rfl, rfl, rfl, h1, r1⟩ := trodAll_cons r0
  obtain ⟨v2, vs2, d2, ds2, p2, q2, rfl, rfl, rfl, h2, r2⟩ := trodAll_cons r1
  obtain ⟨v3, vs3, d3, ds3, p3, q3, rfl, rfl, rfl, h3, r3⟩ := trodAll_cons r2
  obtain ⟨rfl, rfl, rfl⟩ := trodAll_nil r3
  obtain rfl : args = #[v0, v1, v2, v3] := by cases args; simp_all
  obtain ⟨rfl, rfl⟩ := trodVars_none hV
  have k0 := h0
  have lt0 : ∀ x ∈ p0, x.block < W.heap.size := by obtain ⟨m, hm⟩ := k0; exact DataW.trod_lt m _ _ _ hm
  have k1 := h1
  have lt1 : ∀ x ∈ p1, x.block < W.heap.size := by obtain ⟨m, hm⟩ := k1; exact DataW.trod_lt m _ _ _ hm
  have k2 := h2
  have lt2 : ∀ x ∈ p2, x.block < W.heap.size := by obtain ⟨m, hm⟩ := k2; exact DataW.trod_lt m _ _ _ hm
  have k3 := h3
  have lt3 : ∀ x ∈ p3, x.block < W.heap.size := by obtain ⟨m, hm⟩ := k3; exact DataW.trod_lt m _ _ _ hm
  obtain ⟨s0, len0, cap0, rfl⟩ := okWide_slice Try.underlying50 (hval 0 50 v0 rfl rfl)
  obtain ⟨V0, hc0, hr0⟩ := rows_in Try.underlying50 (flat_int Try.underlying51 (by kernel_rfl)) (by decide) h0
  obtain ⟨a1, rfl, _, _, w1⟩ := open_int Try.underlying51 (hval 1 51 v1 rfl rfl) h1
  obtain ⟨a2, rfl, _, _, w2⟩ := open_int Try.underlying51 (hval 2 51 v2 rfl rfl) h2
  obtain ⟨a3, rfl, _, _, w3⟩ := open_int Try.underlying51 (hval 3 51 v3 rfl rfl) h3
  clear hA0 hval0
  refine (walk s0 len0 cap0 V0 a1 a2 a3 W hc0 hr0 (bounds_u16 w1) (bounds_u16 w2) (bounds_u16 w3)).mono fun e W' ⟨he, bel⟩ => ?_
  subst he
  exact ⟨_, rfl, _, _, _, [], _, [], hW', trodAll_mk1 (shut_bool Try.underlying4 _), (trodAll_cons_mk (Below.trod laidOut (by kernel_rfl) (of_decide_eq_true (by kernel_rfl)) k0 bel lt0) (trodAll_cons_mk (Below.trod laidOut (by kernel_rfl) (of_decide_eq_true (by kernel_rfl)) k1 bel lt1) (trodAll_cons_mk (Below.trod laidOut (by kernel_rfl) (of_decide_eq_true (by kernel_rfl)) k2 bel lt2) (trodAll_cons_mk (Below.trod laidOut (by kernel_rfl) (of_decide_eq_true (by kernel_rfl)) k3 bel lt3) trodAll_mk0)))), rfl, bel.frame _, fun h => by cases h⟩
theorem holds : Rows.fenwickSumsRow.holds Try.pinned (OpenSpec.ofChange Rows.fenwickSumsSpec) :=
  OpenClaim.holds_of_wide 6 Try.f6 rfl rfl rfl rfl rfl rfl rfl ⟨rfl, rfl, rfl, rfl, rfl⟩ rfl rfl rfl rfl rfl (by kernel_rfl) Try.func6 (by kernel_rfl)
    (of_decide_eq_true (by kernel_rfl)) (by unfold Func.isWrapper; first | (rw [if_pos (by decide +kernel)]; kernel_rfl) | (rw [if_neg (by decide +kernel)]; exact ⟨rfl, rfl⟩))
    (fun os started H enc _ => lifted os started H enc)
theorem proved : Rows.FenwickSumsSaid := holds
end lawSums
end Go.Proofs.Ytgcnccfmfnifbaa
