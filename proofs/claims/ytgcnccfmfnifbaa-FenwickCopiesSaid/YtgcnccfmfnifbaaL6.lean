/- FenwickCopies holds: a copy has the same counters; what happens to one of both does not change the other one. -/
import Derived.Test.YtgcnccfmfnifbaaFD
import Derived.Test.YtgcnccfmfnifbaaOp
import Derived.Test.YtgcnccfmfnifbaaRows
import Derived.Deep.CutRange
import Derived.StillTailTactics
set_option linter.unusedVariables false
set_option linter.unusedSimpArgs false
namespace Go.Proofs.Ytgcnccfmfnifbaa
open Go.RowKit
namespace lawCopies
open Go.ChangeShapes Go.WideShapes Go.ChangeAt Go.RowKit Go.Joins
set_option maxRecDepth 100000 in
set_option maxHeartbeats 16000000 in
theorem walk (s0 : Option Addr) (len0 cap0 : Nat) (V0 : Nat → Nat → Int) (a1 : Int) (a2 : Int) (w : World) (hc0 : len0 ≤ cap0 ∧ cap0 ≤ maxLen) (hr0 : RowsI w s0 [.u16] len0 V0) (b1 : 0 ≤ a1 ∧ a1 ≤ 65535) (b2 : 0 ≤ a2 ∧ a2 ≤ 65535) : Calls Try.prog 11 #[.slice s0 len0 cap0, .int .u16 a1, .int .u16 a2] w fun e w' => e = .returned (.bool true) ∧ Below w.heap.size w w' := by
  have WK := hide works_t
  by_cases h2 : 300 < len0
  · have d : decide ((300 : Int) < (len0 : Int)) = true := by simp; omega
    clear hc0 hr0 b1 b2 h2
    go_enter Try.func11, Try.ntmps11
    go_wp2_with fail
    refine (WK.out _).mono ?_
    rintro e w1 ⟨rfl, k1⟩
    have K1 := hide k1
    clear k1
    go_wp2_with fail
    go_ret
    exact ⟨rfl, K1.out.below (by simp) (Nat.le_refl _)⟩
  have d : decide ((300 : Int) < (len0 : Int)) = false := by simp; omega
  by_cases h3 : len0 = 0
  · subst h3
    clear hc0 hr0 b1 b2 h2
    go_enter Try.func11, Try.ntmps11
    go_wp2_with fail
    refine (WK.out _).mono ?_
    rintro e w1 ⟨rfl, k1⟩
    have K1 := hide k1
    clear k1
    go_wp2_with fail
    go_ret
    exact ⟨rfl, K1.out.below (by simp) (Nat.le_refl _)⟩
  have d3 : decide ((len0 : Int) = 0) = false := by simp; omega
  have d3' : decide (len0 = 0) = false := by simp; omega
  have HN := hide (show len0 ≤ 300 by omega)
  have RD := hide (rd16_arg hr0)
  have FL := hide (filled_t (c := cap0) RD.out HN.out)
  obtain ⟨k, tk, hk⟩ : ∃ i : Nat, a1.tmod (len0 : Int) = (i : Int) ∧ i < len0 := by
    refine ⟨(a1 % (len0 : Int)).toNat, ?_, ?_⟩
    · rw [Int.tmod_eq_emod_of_nonneg b1.1]
      have := Int.emod_nonneg a1 (show (len0 : Int) ≠ 0 by omega); omega
    · have := Int.emod_lt_of_pos a1 (show (0 : Int) < (len0 : Int) by omega); have := Int.emod_nonneg a1 (show (len0 : Int) ≠ 0 by omega); omega
  have w1 : IntKind.i64.wrap a1 = a1 := by rw [IntKind.wrap_i64]; omega
  have w2 : IntKind.i64.wrap a2 = a2 := by rw [IntKind.wrap_i64]; omega
  have w2' : wrap64 a2 = a2 := by unfold wrap64; omega
  have wk : IntKind.i64.wrap (k : Int) = (k : Int) := by rw [IntKind.wrap_i64]; omega
  have wk1 : IntKind.i64.wrap ((k : Int) + 1) = (k : Int) + 1 := by rw [IntKind.wrap_i64]; omega
  have HK := hide hk
  have bk : (k : Int) < (len0 : Int) := by omega
  have hk0 : k < len0 := hk
  have hlp : (0 : Int) < (len0 : Int) := by omega
  have HA := hide b2
  clear hc0 hr0 b1 h2 h3 hk
  go_enter Try.func11, Try.ntmps11
  go_wp2_with fail
  refine FL.out.mono ?_
  rintro e w1 ⟨b, own, rfl, f1, ho, k1⟩
  have K1 := hide k1
  have F1 := hide f1
  have OW := hide ho
  have SB := hide (sumS_lC RD.out len0)
  have SN := hide f1.nn
  have LI := hide (lC_in V0 HK.out)
  generalize lC len0 V0 = C at *
  clear f1 ho k1 FL
  go_wp2_with fail
  refine (copy_t F1.out).mono ?_
  rintro e w2 ⟨b', own', rfl, f2, k2⟩
  have F2 := hide f2
  have FC := hide (F1.out.keep0 k2)
  have K2 := hide (K1.out.trans0 k2)
  have DJ := hide (show ∀ x ∈ own, x ∉ own' from fun x hx hx' => by have := (F1.out.own_lt x hx).2; have := (f2.own_lt x hx').1; omega)
  have OW' := hide (show ∀ x ∈ own', w.heap.size ≤ x from fun x hx => by have := (f2.own_lt x hx).1; have := K1.out.size; omega)
  have SZ := hide k2.size
  have LEN := hide (len_t f2)
  have TOT := hide (tot_at f2 rfl _ (Kp.refl _ _))
  have TOC := hide (tot_at FC.out rfl)
  clear f2 F1 k2
  rcases RD.out with h0 | ⟨bs, off, rfl, hbs, hc⟩
  · have := HK.out; omega
  obtain ⟨e1, v1, v2⟩ := hc k HK.out
  rw [← LI.out] at e1 v1 v2
  obtain ⟨T, hT⟩ : ∃ T, T = sumS C len0 := ⟨_, rfl⟩
  obtain ⟨v, hv⟩ : ∃ v, v = C k := ⟨_, rfl⟩
  rw [← hT] at TOT TOC SB
  rw [← hv] at e1 v1 v2
  have CE := hide (fun W (kW : Kp [] w W) => (kW.at hbs (off + k)).trans e1)
  have T0 := sumS_mono SN.out (Nat.zero_le len0)
  rw [← hT, show sumS C 0 = 0 from rfl] at T0
  have TB := hide (show 0 ≤ T ∧ T ≤ 19660500 from ⟨T0, by have := SB.out; have := HN.out; omega⟩)
  have HT := hide hT
  have HV := hide hv
  have HVB := hide (And.intro v1 v2)
  have x1 : IntKind.i64.wrap v = v := by rw [IntKind.wrap_i64]; omega
  have x2 : wrap64 v = v := by unfold wrap64; omega
  have x3 : IntKind.i64.wrap (v + a2) = v + a2 := by have := HA.out; rw [IntKind.wrap_i64]; omega
  have x4 : wrap64 (v + a2) = v + a2 := by have := HA.out; unfold wrap64; omega
  have x5 : IntKind.i64.wrap (T + a2) = T + a2 := by have := HA.out; have := TB.out; rw [IntKind.wrap_i64]; omega
  have x6 : wrap64 (T + a2) = T + a2 := by have := HA.out; have := TB.out; unfold wrap64; omega
  have x7 : IntKind.i64.wrap (-v) = -v := by rw [IntKind.wrap_i64]; omega
  have x8 : wrap64 (-v) = -v := by unfold wrap64; omega
  clear hc RD LI hT hv e1 v1 v2 hbs T0 SB
  go_wp2_with fail
  refine LEN.out.mono ?_
  rintro e w3 ⟨rfl, rfl⟩
  go_wp2_with fail
  refine TOT.out.mono ?_
  rintro e w3 ⟨rfl, k3⟩
  go_wp2_with fail
  refine (TOC.out _ k3).mono ?_
  rintro e w4 ⟨rfl, k4⟩
  have kd : Kp [] w2 w4.drew := k4.trans0 (Kp.drewN [] w4 1)
  have KD := hide (K2.out.trans0 kd)
  have X0 := hide (F2.out.keep0 kd)
  have C0 := hide (FC.out.keep0 kd)
  have S0 : w4.drew.cell? ⟨bs, off + k, none⟩ = some (.int .u16 v) := CE.out _ KD.out
  have AD := hide (add_t X0.out (k : Int) a2 (by have := HA.out; unfold I64; omega) (by have := kd.size; have := SZ.out; omega))
  obtain ⟨E1, E2⟩ := addE_ok (C := C) (n := len0) (i := k) (d := a2) HK.out (by rw [← HV.out]; have := HVB.out; have := HA.out; omega) (by rw [← HT.out]; have := TB.out; have := HA.out; omega)
  rw [E1, E2] at AD
  obtain ⟨C1, hC1⟩ : ∃ C1, C1 = updC C k (C k + a2) := ⟨_, rfl⟩
  rw [← hC1] at AD
  have HC1 := hide (show C1 k = v + a2 by rw [hC1, HV.out]; unfold updC; rw [if_pos rfl])
  have HT1 := hide (show sumS C1 len0 = T + a2 by rw [hC1, sum_upd _ HK.out, ← HT.out])
  clear hC1 E1 E2 k3 k4 kd
  go_wp2_with fail
  go_region_held3 (fun w' => w'.cell? ⟨bs, off + k, none⟩ = some (.int .u16 v)) (first | with_reducible assumption)
    (first
      | ((with_reducible (refine AD.out.mono ?_)); rintro e w5 ⟨rfl, f5, k5⟩; have KK5 : Kp [] w w5 := KD.out.trans k5 (fun z hz => .inr (OW'.out z hz)); have S5 : w5.cell? ⟨bs, off + k, none⟩ = some (.int .u16 v) := CE.out _ KK5; have X5 := hide f5; have C5 := hide (C0.out.keep k5 DJ.out); have GC := hide (get_at C5.out HK.out HV.out.symm); have GX := hide (get_at X5.out HK.out HC1.out); have TX := hide (tot_at X5.out HT1.out); have TC := hide (tot_at C5.out HT.out.symm); have k55 : Kp [] w5 w5 := Kp.refl _ _)
      | ((with_reducible (refine (GC.out _ (by with_reducible assumption)).mono ?_)); rintro e w6 ⟨rfl, k6⟩; have S6 : w6.cell? ⟨bs, off + k, none⟩ = some (.int .u16 v) := CE.out _ (KK5.trans0 k6))
      | ((with_reducible (refine (GX.out _ (by with_reducible assumption)).mono ?_)); rintro e w7 ⟨rfl, k7⟩; have S7 : w7.cell? ⟨bs, off + k, none⟩ = some (.int .u16 v) := CE.out _ (KK5.trans0 k7))
      | ((with_reducible (refine (TX.out _ (by with_reducible assumption)).mono ?_)); rintro e w8 ⟨rfl, k8⟩; have S8 : w8.cell? ⟨bs, off + k, none⟩ = some (.int .u16 v) := CE.out _ (KK5.trans0 k8))
      | ((with_reducible (refine (TC.out _ (by with_reducible assumption)).mono ?_)); rintro e w9 ⟨rfl, k9⟩; have S9 : w9.cell? ⟨bs, off + k, none⟩ = some (.int .u16 v) := CE.out _ (KK5.trans0 k9)))
  have X9 := hide (X5.out.keep0 k9)
  have C9 := hide (C5.out.keep0 k9)
  have K9 := hide (KK5.trans0 k9)
  have AD2 := hide (add_t C9.out (k : Int) (-v) (by have := HVB.out; unfold I64; omega) K9.out.size)
  obtain ⟨E1, E2⟩ := addE_ok (C := C) (n := len0) (i := k) (d := -v) HK.out (by rw [← HV.out]; omega) (by rw [← HT.out]; have := TB.out; have := HVB.out; omega)
  rw [E1, E2] at AD2
  obtain ⟨C2, hC2⟩ : ∃ C2, C2 = updC C k (C k + -v) := ⟨_, rfl⟩
  rw [← hC2] at AD2
  have HC2 := hide (show C2 k = 0 by rw [hC2, ← HV.out]; unfold updC; rw [if_pos rfl]; omega)
  clear hC2 E1 E2 k5 k6 k7 k8 k9 k55 KK5 S0 S5 S6 S7 S8 f5 AD GC GX TX TC X5 C5 X0 C0
  go_wp2_with fail
  refine AD2.out.mono ?_
  rintro e w10 ⟨rfl, f10, k10⟩
  have kd : Kp [] w10 w10.drew := Kp.drewN [] w10 1
  have KD2 := hide ((K9.out.trans k10 (fun z hz => .inr (OW.out z hz))).trans0 kd)
  have XA := hide ((X9.out.keep k10 (fun x hx hx' => DJ.out x hx' hx)).keep0 kd)
  have CA := hide (f10.keep0 kd)
  have S0 : w10.drew.cell? ⟨bs, off + k, none⟩ = some (.int .u16 v) := CE.out _ KD2.out
  have GC := hide (get_at CA.out HK.out HC2.out)
  have GX := hide (get_at XA.out HK.out HC1.out)
  obtain ⟨P, hP⟩ : ∃ P, sumS C1 k = P := ⟨_, rfl⟩
  have PB := XA.out.sum_bd (show k ≤ len0 by have := HK.out; omega)
  rw [hP, HT1.out] at PB
  have PX0 := hide (pre_at XA.out (i := k) (by have := HK.out; omega) hP rfl)
  have PX1 := hide (pre_at XA.out (i := k + 1) (by have := HK.out; omega) (show sumS C1 (k + 1) = P + (v + a2) by rw [sumS, hP, HC1.out]) (show (k : Int) + 1 = ((k + 1 : Nat) : Int) by omega))
  have y1 : IntKind.i64.wrap (P + (v + a2) - P) = v + a2 := by rw [show P + (v + a2) - P = v + a2 by omega]; exact x3
  have y2 : wrap64 (P + (v + a2) - P) = v + a2 := by rw [show P + (v + a2) - P = v + a2 by omega]; exact x4
  have kk : Kp [] w10.drew w10.drew := Kp.refl _ _
  clear S9 f10 k10 kd AD2 hP PB
  go_wp2_with fail
  go_region_held3 (fun w' => w'.cell? ⟨bs, off + k, none⟩ = some (.int .u16 v)) (first | with_reducible assumption)
    (first
      | ((with_reducible (refine (GC.out _ (by with_reducible assumption)).mono ?_)); rintro e w11 ⟨rfl, k11⟩; have S11 : w11.cell? ⟨bs, off + k, none⟩ = some (.int .u16 v) := CE.out _ (KD2.out.trans0 k11))
      | ((with_reducible (refine (GX.out _ (by with_reducible assumption)).mono ?_)); rintro e w12 ⟨rfl, k12⟩; have S12 : w12.cell? ⟨bs, off + k, none⟩ = some (.int .u16 v) := CE.out _ (KD2.out.trans0 k12))
      | ((with_reducible (refine (PX1.out _ (by with_reducible assumption)).mono ?_)); rintro e w13 ⟨rfl, k13⟩; have S13 : w13.cell? ⟨bs, off + k, none⟩ = some (.int .u16 v) := CE.out _ (KD2.out.trans0 k13))
      | ((with_reducible (refine (PX0.out _ (by with_reducible assumption)).mono ?_)); rintro e w14 ⟨rfl, k14⟩; have S14 : w14.cell? ⟨bs, off + k, none⟩ = some (.int .u16 v) := CE.out _ (KD2.out.trans0 k14))
      | ((with_reducible (refine (WK.out _).mono ?_)); rintro e w15 ⟨rfl, k15⟩; have K15 : Kp [] w w15 := (KD2.out.trans0 k12).trans0 k15; have S15 : w15.cell? ⟨bs, off + k, none⟩ = some (.int .u16 v) := CE.out _ K15))
  have KZ := hide K15
  clear K15 S0 S11 S12 S13 S14 S15 k11 k12 k13 k14 k15
  go_wp2_with fail
  go_ret
  exact ⟨rfl, KZ.out.below (by simp) (Nat.le_refl _)⟩
theorem own : ownKnob Try.prog.godebug = none := by kernel_rfl
theorem laidOut : laidOutB Try.prog = true := by kernel_rfl
set_option maxRecDepth 100000 in
theorem lifted (os : Os) (started : os.Started) (H : Type) (enc : TypeId × Value → H) :
    ReturnsInHanded {} Try.checked os 11 .any (Rows.fenwickCopiesSpec.pre6 enc Try.prog Try.f11 Rows.fenwickCopiesRow.domain false) (Rows.fenwickCopiesSpec.post enc Try.prog Try.f11 false true false false) := by
  refine returnsInHanded_of_change (C := Try.checked) own started (by kernel_rfl) Try.func11
    (ChangeSpec.witness6 (enc := enc) (C := Try.checked) false ⟨#[], #[.slice none 0 0, .int .u16 0, .int .u16 0], []⟩ 8 (by kernel_rfl) (by kernel_rfl) (by kernel_rfl) (by kernel_rfl)) ?_
  intro W base args ds gs before hval0 hW hcnd _
  have hval : ∀ (j : Nat) t v, Try.f11.params[j]? = some t → args[j]? = some v → Value.okWide Try.prog W .any base t v := hval0
  have hW' := hW
  obtain ⟨p, q, hA0, hV, rfl, hfz, hnd⟩ := hW
  have hA : DataW.TrodAll enc Try.prog W 0 (fun _ => true) true Try.f11.params.toList args.toList ds p := hA0
  rw [Try.params11] at hA hval
  obtain ⟨v0, vs0, d0, ds0, p0, q0, hargs, rfl, rfl, h0, r0⟩ := trodAll_cons hA
  obtain ⟨v1, vs1, d1, ds1, p1, q1, rfl, rfl, rfl, h1, r1⟩ := trodAll_cons r0
  obtain ⟨v2, vs2, d2, ds2, p2, q2, rfl, rfl, rfl, h2, r2⟩ := trodAll_cons r1
  obtain ⟨rfl, rfl, rfl⟩ := trodAll_nil r2
  obtain rfl : args = #[v0, v1, v2] := by cases args; simp_all
  obtain ⟨rfl, rfl⟩ := trodVars_none hV
  have k0 := h0
  have lt0 : ∀ x ∈ p0, x.block < W.heap.size := by obtain ⟨m, hm⟩ := k0; exact DataW.trod_lt m _ _ _ hm
  have k1 := h1
  have lt1 : ∀ x ∈ p1, x.block < W.heap.size := by obtain ⟨m, hm⟩ := k1; exact DataW.trod_lt m _ _ _ hm
  have k2 := h2
  have lt2 : ∀ x ∈ p2, x.block < W.heap.size := by obtain ⟨m, hm⟩ := k2; exact DataW.trod_lt m _ _ _ hm
  obtain ⟨s0, len0, cap0, rfl⟩ := okWide_slice Try.underlying50 (hval 0 50 v0 rfl rfl)
  obtain ⟨V0, hc0, hr0⟩ := rows_in Try.underlying50 (flat_int Try.underlying51 (by kernel_rfl)) (by decide) h0
  obtain ⟨a1, rfl, _, _, w1⟩ := open_int Try.underlying51 (hval 1 51 v1 rfl rfl) h1
  obtain ⟨a2, rfl, _, _, w2⟩ := open_int Try.underlying51 (hval 2 51 v2 rfl rfl) h2
  clear hA0 hval0
  refine (walk s0 len0 cap0 V0 a1 a2 W hc0 hr0 (bounds_u16 w1) (bounds_u16 w2)).mono fun e W' ⟨he, bel⟩ => ?_
  subst he
  exact ⟨_, rfl, _, _, _, [], _, [], hW', trodAll_mk1 (shut_bool Try.underlying4 _), (trodAll_cons_mk (Below.trod laidOut (by kernel_rfl) (of_decide_eq_true (by kernel_rfl)) k0 bel lt0) (trodAll_cons_mk (Below.trod laidOut (by kernel_rfl) (of_decide_eq_true (by kernel_rfl)) k1 bel lt1) (trodAll_cons_mk (Below.trod laidOut (by kernel_rfl) (of_decide_eq_true (by kernel_rfl)) k2 bel lt2) trodAll_mk0))), rfl, bel.frame _, fun h => by cases h⟩
theorem holds : Rows.fenwickCopiesRow.holds Try.pinned (OpenSpec.ofChange Rows.fenwickCopiesSpec) :=
  OpenClaim.holds_of_wide 11 Try.f11 rfl rfl rfl rfl rfl rfl rfl ⟨rfl, rfl, rfl, rfl, rfl⟩ rfl rfl rfl rfl rfl (by kernel_rfl) Try.func11 (by kernel_rfl)
    (of_decide_eq_true (by kernel_rfl)) (by unfold Func.isWrapper; first | (rw [if_pos (by decide +kernel)]; kernel_rfl) | (rw [if_neg (by decide +kernel)]; exact ⟨rfl, rfl⟩))
    (fun os started H enc _ => lifted os started H enc)
theorem proved : Rows.FenwickCopiesSaid := holds
end lawCopies
end Go.Proofs.Ytgcnccfmfnifbaa
