/- LatticeWeighs: the law answers true at every list of edges and every list of weights (beyond 500 of either the example alone). -/
import Derived.Test.YthgeccmphnppgaaU
import Derived.Test.YthgeccmphnppgaaOp
import Derived.Test.YthgeccmphnppgaaRows
import Derived.Deep.CutRange
set_option linter.unusedVariables false
set_option linter.unusedSimpArgs false
namespace Go.Proofs.Ythgeccmphnppgaa
open Go.RowKit
namespace lawWeighs
open Go.ChangeShapes Go.WideShapes Go.ChangeAt Go.RowKit Go.Joins
set_option maxRecDepth 100000 in
set_option maxHeartbeats 16000000 in
theorem walk (s0 : Option Addr) (len0 cap0 : Nat) (V0 : Nat → Nat → Int) (s1 : Option Addr) (len1 cap1 : Nat) (V1 : Nat → Nat → Int) (w : World) (hc0 : len0 ≤ cap0 ∧ cap0 ≤ maxLen) (hr0 : RowsI w s0 [.i64, .i64, .i64] len0 V0) (hc1 : len1 ≤ cap1 ∧ cap1 ≤ maxLen) (hr1 : RowsI w s1 [.i64] len1 V1) : Calls Try.prog 8 #[.slice s0 len0 cap0, .slice s1 len1 cap1] w fun e w' => e = .returned (.bool true) ∧ Below w.heap.size w w' := by
  have small : ∀ W, Calls Try.prog 17 #[] W fun e w' => e = .returned (.bool true) ∧ Below W.heap.size W w' := works
  by_cases h0 : len0 ≤ 500
  · by_cases h1 : len1 ≤ 500
    · have E0 := hide (rdE_arg (c := cap0) hr0)
      have E1 := hide (rdW_arg (c := cap1) hr1)
      have l0 : (rowsE len0 V0).length = len0 := by simp [rowsE]
      have l1 : (rowsW len1 V1).length = len1 := by simp [rowsW]
      generalize rowsE len0 V0 = es at *
      generalize rowsW len1 V1 = ws at *
      have L0 := hide l0
      have L1 := hide l1
      have HZ := hide (And.intro h0 h1)
      have d0 : decide ((500 : Int) < (len0 : Int)) = false := by simp; omega
      have d1 : decide ((500 : Int) < (len1 : Int)) = false := by simp; omega
      have ll1 : len1 ≤ 500 := h1
      clear hc0 hc1 hr0 hr1 h0 h1 l0 l1 small
      go_enter Try.func8, Try.ntmps8
      go_wp2_with (first
        | refine wpList_m22z rfl rfl ?_
        | (at_builtin; refine wpList_copyE w _ rfl rfl _ _ rfl rfl es s0 len0 cap0 rfl E0.out (by have := HZ.out; have := L0.out; omega) ?_; intro p1 c1 w1 r1 k1; have R1 := hide r1; have K1 := hide k1; clear r1 k1)
        | refine wpList_m39z rfl rfl ?_
        | (at_builtin; refine wpList_copyW w1 _ rfl rfl _ _ rfl rfl ws s1 len1 cap1 rfl (E1.out.keep K1.out) (by have := HZ.out; have := L1.out; omega) ?_; intro p2 c2 w2 r2 k2; have R2 := hide r2; have K2 := hide (K1.out.trans (k2.mono K1.out.size)); have R1' := hide (R1.out.keep k2); clear r2 k2 R1 K1))
      have A := hide (weights_28 es ws (by have := HZ.out; have := L0.out; omega) _ _ w2 R1'.out R2.out)
      refine A.out.mono ?_
      rintro e w3 ⟨v3, rfl, rd3, bw3⟩
      obtain ⟨p3, c3, hv3⟩ := rd3.slice
      subst hv3
      have K3 := hide (K2.out.trans (bw3.mono K2.out.size))
      have R3 := hide rd3
      have Q1 := hide (R1'.out.keep bw3)
      have Q2 := hide (R2.out.keep bw3)
      have E0' := hide (E0.out.keep K3.out)
      have E1' := hide (E1.out.keep K3.out)
      clear rd3 bw3 A K2 R1' R2
      go_wp2_with fail
      have A := hide (weights_29 es ws (by have := HZ.out; have := L0.out; omega) _ _ w3 E0'.out E1'.out)
      refine A.out.mono ?_
      rintro e w4 ⟨v4, rfl, rd4, bw4⟩
      obtain ⟨p4, c4, hv4⟩ := rd4.slice
      subst hv4
      have K4 := hide (K3.out.trans (bw4.mono K3.out.size))
      have S1 := hide (R3.out.keep bw4)
      have S2 := hide rd4
      have T1 := hide (Q1.out.keep bw4)
      have T2 := hide (Q2.out.keep bw4)
      have LW := hide (wR_len es ws (by have := HZ.out; have := L0.out; omega))
      generalize wR es ws = r at *
      obtain ⟨r1, r2⟩ := r
      clear rd4 bw4 A K3 R3 Q1 Q2 E0' E1'
      go_wp2_with fail
      go_loopw [11] (fun x wr => ∃ k : Nat, k ≤ len1 ∧ x = .int .i64 (k : Int) ∧ Hid (∃ q, wr = w4.drewN q)) (fun x _ => len1 - (intOf x).toNat)
      case atStart => exact ⟨0, by omega, rfl, 0, rfl⟩
      case round =>
        obtain ⟨k, hk, rfl, hq⟩ := hrel
        obtain ⟨qq, rfl⟩ := hq.out
        by_cases hkn : k < len1
        · have dk : decide (k < len1) = true := by simp; omega
          have dki : decide ((k : Int) < (len1 : Int)) = true := by simp; omega
          have wk : IntKind.i64.wrap ((k : Int) + 1) = ((k + 1 : Nat) : Int) := by rw [IntKind.wrap_i64]; omega
          obtain ⟨x, hx⟩ : ∃ x, ws[k]? = some x := ⟨_, List.getElem?_eq_getElem (by rw [L1.out]; exact hkn)⟩
          obtain ⟨b1, o1, rfl, e1⟩ := T2.out.at hx
          obtain ⟨b2, o2, rfl, e2⟩ := (E1.out.keep K4.out).at hx
          generalize hwr : w4.drewN qq = wr
          have HW := hide hwr
          have e1' : wr.cell? ⟨b1, o1 + k, none⟩ = some (.int .i64 x) := by rw [← hwr]; exact e1
          have e2' : wr.cell? ⟨b2, o2 + k, none⟩ = some (.int .i64 x) := by rw [← hwr]; exact e2
          clear e1 e2 hwr hx
          go_wp2_with fail
          go_quiet (fail)
          go_wp2_with fail
          go_roundw
          case rel => exact ⟨k + 1, by omega, rfl, qq + nq, by rw [← HW.out, World.drewN_drewN]⟩
          case measure => simp [intOf]; omega
        · have : k = len1 := by omega
          subst this
          have dk : decide (k < k) = false := by simp
          have dki : decide ((k : Int) < (k : Int)) = false := by simp
          generalize hwr : w4.drewN qq = wr
          have KD : Below w4.heap.size w4 wr := by rw [← hwr]; exact Below.drewN' _ _
          have SE := hide (same_e wr _ _ r2 (S1.out.keep KD) (S2.out.keep KD) LW.out)
          have K5 := hide (K4.out.trans (KD.mono K4.out.size))
          have T3 := hide (T1.out.keep KD)
          clear hwr KD
          go_wp2_with fail
          refine SE.out.mono ?_
          rintro e w5 ⟨rfl, bw5⟩
          have K6 := hide (K5.out.trans (bw5.mono K5.out.size))
          have SE2 := hide (same_e w5 _ _ es (T3.out.keep bw5) (E0.out.keep K6.out) (by have := HZ.out; have := L0.out; omega))
          clear bw5 K5 SE T3
          go_wp2_with fail
          refine SE2.out.mono ?_
          rintro e w6 ⟨rfl, bw6⟩
          have K7 := hide (K6.out.trans (bw6.mono K6.out.size))
          clear bw6 SE2 K6
          go_wp2_with fail
          refine (works _).mono ?_
          rintro e w7 ⟨rfl, bw7⟩
          have K8 := hide (K7.out.trans (bw7.mono K7.out.size))
          clear bw7 K7
          go_wp2_with fail
          go_ret
          exact ⟨rfl, K8.out⟩
    · have d0 : decide ((500 : Int) < (len0 : Int)) = false := by simp; omega
      have d1 : decide ((500 : Int) < (len1 : Int)) = true := by simp; omega
      clear hc0 hc1 hr0 hr1 h0 h1
      go_enter Try.func8, Try.ntmps8
      go_wp2_with fail
      refine (small _).mono ?_
      rintro e w2 ⟨rfl, bw⟩
      go_wp2_with fail
      go_ret
      exact ⟨rfl, bw⟩
  · have d0 : decide ((500 : Int) < (len0 : Int)) = true := by simp; omega
    clear hc0 hc1 hr0 hr1 h0
    go_enter Try.func8, Try.ntmps8
    go_wp2_with fail
    refine (small _).mono ?_
    rintro e w2 ⟨rfl, bw⟩
    go_wp2_with fail
    go_ret
    exact ⟨rfl, bw⟩
theorem own : ownKnob Try.prog.godebug = none := by kernel_rfl
theorem laidOut : laidOutB Try.prog = true := by kernel_rfl
set_option maxRecDepth 100000 in
theorem lifted (os : Os) (started : os.Started) (H : Type) (enc : TypeId × Value → H) :
    ReturnsInHanded {} Try.checked os 8 .any (Rows.latticeWeighsSpec.pre6 enc Try.prog Try.f8 Rows.latticeWeighsRow.domain false) (Rows.latticeWeighsSpec.post enc Try.prog Try.f8 false true false false) := by
  refine returnsInHanded_of_change (C := Try.checked) own started (by kernel_rfl) Try.func8
    (ChangeSpec.witness6 (enc := enc) (C := Try.checked) false ⟨#[], #[.slice none 0 0, .slice none 0 0], []⟩ 8 (by kernel_rfl) (by kernel_rfl) (by kernel_rfl) (by kernel_rfl)) ?_
  intro W base args ds gs before hval0 hW hcnd _
  have hval : ∀ (j : Nat) t v, Try.f8.params[j]? = some t → args[j]? = some v → Value.okWide Try.prog W .any base t v := hval0
  have hW' := hW
  obtain ⟨p, q, hA0, hV, rfl, hfz, hnd⟩ := hW
  have hA : DataW.TrodAll enc Try.prog W 0 (fun _ => true) true Try.f8.params.toList args.toList ds p := hA0
  rw [Try.params8] at hA hval
  obtain ⟨v0, vs0, d0, ds0, p0, q0, hargs, rfl, rfl, h0, r0⟩ := trodAll_cons hA
  obtain ⟨v1, vs1, d1, ds1, p1, q1, rfl, rfl, rfl, h1, r1⟩ := trodAll_cons r0
  obtain ⟨rfl, rfl, rfl⟩ := trodAll_nil r1
  obtain rfl : args = #[v0, v1] := by cases args; simp_all
  obtain ⟨rfl, rfl⟩ := trodVars_none hV
  have k0 := h0
  have lt0 : ∀ x ∈ p0, x.block < W.heap.size := by obtain ⟨m, hm⟩ := k0; exact DataW.trod_lt m _ _ _ hm
  have k1 := h1
  have lt1 : ∀ x ∈ p1, x.block < W.heap.size := by obtain ⟨m, hm⟩ := k1; exact DataW.trod_lt m _ _ _ hm
  obtain ⟨s0, len0, cap0, rfl⟩ := okWide_slice Try.underlying22 (hval 0 22 v0 rfl rfl)
  obtain ⟨V0, hc0, hr0⟩ := rows_in Try.underlying22 (flat_struct (ks := [.i64, .i64, .i64]) Try.underlying50 (by kernel_rfl) (by kernel_rfl)) (by decide) h0
  obtain ⟨s1, len1, cap1, rfl⟩ := okWide_slice Try.underlying39 (hval 1 39 v1 rfl rfl)
  obtain ⟨V1, hc1, hr1⟩ := rows_in Try.underlying39 (flat_int Try.underlying2 (by kernel_rfl)) (by decide) h1
  clear hA0 hval0
  refine (walk s0 len0 cap0 V0 s1 len1 cap1 V1 W hc0 hr0 hc1 hr1).mono fun e W' ⟨he, bel⟩ => ?_
  subst he
  exact ⟨_, rfl, _, _, _, [], _, [], hW', trodAll_mk1 (shut_bool Try.underlying4 _), (trodAll_cons_mk (Below.trod laidOut (by kernel_rfl) (of_decide_eq_true (by kernel_rfl)) k0 bel lt0) (trodAll_cons_mk (Below.trod laidOut (by kernel_rfl) (of_decide_eq_true (by kernel_rfl)) k1 bel lt1) trodAll_mk0)), rfl, bel.frame _, fun h => by cases h⟩
theorem holds : Rows.latticeWeighsRow.holds Try.pinned (OpenSpec.ofChange Rows.latticeWeighsSpec) :=
  OpenClaim.holds_of_wide 8 Try.f8 rfl rfl rfl rfl rfl rfl rfl ⟨rfl, rfl, rfl, rfl, rfl⟩ rfl rfl rfl rfl rfl (by kernel_rfl) Try.func8 (by kernel_rfl)
    (of_decide_eq_true (by kernel_rfl)) (by unfold Func.isWrapper; first | (rw [if_pos (by decide +kernel)]; kernel_rfl) | (rw [if_neg (by decide +kernel)]; exact ⟨rfl, rfl⟩))
    (fun os started H enc _ => lifted os started H enc)
theorem proved : Rows.LatticeWeighsSaid := holds
end lawWeighs
end Go.Proofs.Ythgeccmphnppgaa
