/- MsortJoins holds: a list, divided anywhere, its parts sorted and merged, is the sorted list. -/
import Derived.Test.YtiebmjdclicheaaMY
import Derived.Test.YtiebmjdclicheaaOp
import Derived.Test.YtiebmjdclicheaaRows
import Derived.Deep.CutRange
import Derived.StillTailTactics
set_option linter.unusedVariables false
set_option linter.unusedSimpArgs false
namespace Go.Proofs.Ytiebmjdclicheaa
open Go.RowKit
namespace lawJoins
open Go.ChangeShapes Go.WideShapes Go.ChangeAt Go.RowKit Go.Joins
set_option maxRecDepth 100000 in
set_option maxHeartbeats 16000000 in
theorem walk (s0 : Option Addr) (len0 cap0 : Nat) (V0 : Nat → Nat → Int) (a1 : Int) (a2 : Int) (w : World) (hc0 : len0 ≤ cap0 ∧ cap0 ≤ maxLen) (hr0 : RowsI w s0 [.u64, .u64, .i64, .i64] len0 V0) (b1 : 0 ≤ a1 ∧ a1 ≤ 255) (b2 : 0 ≤ a2 ∧ a2 ≤ 255) : Calls Try.prog 9 #[.slice s0 len0 cap0, .int .u8 a1, .int .u8 a2] w fun e w' => e = .returned (.bool true) ∧ Below w.heap.size w w' := by
  have H0 := hide (hr_arg hc0 hr0)
  have LN := hide (lR_len len0 V0)
  by_cases h2 : 200 < len0
  · have d : decide ((200 : Int) < (len0 : Int)) = true := by simp; omega
    clear hc0 hr0 b1 b2 h2
    go_enter Try.func9, Try.ntmps9
    go_wp2_with fail
    go_ret
    exact ⟨rfl, Below.refl _ _⟩
  · have d : decide ((200 : Int) < (len0 : Int)) = false := by simp; omega
    have WK := hide works_t
    have TH := hide (three_t a2 b2)
    have HN := hide (show len0 ≤ 200 by omega)
    generalize lR len0 V0 = l at *
    have w1 : IntKind.i64.wrap a1 = a1 := by rw [IntKind.wrap_i64]; omega
    have hl2 : len0 ≤ 200 := by omega
    have ha0 : 0 ≤ a1 := b1.1
    have ha5 : a1 ≤ 255 := b1.2
    obtain ⟨i, hi⟩ : ∃ i : Nat, a1 % ((len0 : Int) + 1) = (i : Int) := ⟨(a1 % ((len0 : Int) + 1)).toNat, by have := Int.emod_nonneg a1 (show ((len0 : Int) + 1) ≠ 0 by omega); omega⟩
    have hiN : i ≤ len0 := by have := Int.emod_lt_of_pos a1 (show (0 : Int) < (len0 : Int) + 1 by omega); omega
    have ht : a1.tmod ((len0 : Int) + 1) = (i : Int) := by rw [Int.tmod_eq_emod_of_nonneg b1.1, hi]
    have wi : IntKind.i64.wrap (i : Int) = (i : Int) := by rw [IntKind.wrap_i64]; omega
    have wi' : wrap64 (i : Int) = (i : Int) := by unfold wrap64; omega
    have HI := hide (show i ≤ l.length by rw [LN.out]; exact hiN)
    obtain ⟨va, ra, ha⟩ := H0.out.lo HI.out
    obtain ⟨vb, rb, hb⟩ := H0.out.hi HI.out
    have HA := hide ha
    have HB := hide hb
    have HL1 := hide (show (l.take i).length = i by rw [List.length_take]; exact Nat.min_eq_left HI.out)
    have HL2 := hide (show (l.drop i).length = len0 - i by rw [List.length_drop, LN.out])
    clear hc0 hr0 b1 b2 h2 hiN ha hb
    go_enter Try.func9, Try.ntmps9
    go_wp2_with fail
    refine (TH.out _).mono ?_
    rintro e w' ⟨⟨k, hk, rfl⟩, rfl⟩
    have HK := hide hk
    have E0 := hide (show chk l.length k = 0 from chk_ok hk (by rw [LN.out]; have := HN.out; omega))
    have E1 := hide (show chk (l.take i).length k = 0 from chk_ok hk (by rw [HL1.out]; have := HI.out; rw [LN.out] at this; have := HN.out; omega))
    have E2 := hide (show chk (l.drop i).length k = 0 from chk_ok hk (by rw [HL2.out]; have := HN.out; omega))
    have SA := hide (sort_h (k := k) HA.out)
    have SB := hide (fun W (kW : Kp [] w W) => sort_h (k := k) (HB.out.keep kW))
    have SC := hide (fun W (kW : Kp [] w W) => sort_h (k := k) (H0.out.keep kW))
    rw [E1.out] at SA
    rw [E2.out] at SB
    rw [E0.out] at SC
    have EM := hide (show mergeE k (sortA k (l.take i)) (sortA k (l.drop i)) = 0 from mergeE_parts hk (by rw [HL1.out, HL2.out]; have := HN.out; have := HI.out; rw [LN.out] at this; omega))
    have AM := hide (show mergeA k (sortA k (l.take i)) (sortA k (l.drop i)) = sortA k l by rw [mergeA_parts hk (by rw [HL1.out, HL2.out]; have := HN.out; have := HI.out; rw [LN.out] at this; omega), List.take_append_drop])
    have LL := hide (show (sortA k (l.take i)).length + (sortA k (l.drop i)).length ≤ 1000000 by rw [sortA_len E1.out, sortA_len E2.out, HL1.out, HL2.out]; have := HN.out; have := HI.out; rw [LN.out] at this; omega)
    have LS := hide (show (sortA k l).length ≤ 1000000 by rw [sortA_len E0.out, LN.out]; have := HN.out; omega)
    clear hk
    go_wp2_with fail
    refine SA.out.mono ?_
    rintro e w1 ⟨v1, rfl, h1, p1, k1⟩
    have K1 := hide k1
    have H1 := hide h1
    have P1 := hide p1
    have SB1 := hide (SB.out _ k1)
    clear h1 p1 k1
    go_wp2_with fail
    refine SB1.out.mono ?_
    rintro e w2 ⟨v2, rfl, h2, p2, k2⟩
    have K2 := hide (K1.out.trans0 k2)
    have H2 := hide h2
    have H12 := hide (H1.out.keep k2)
    have MG := hide (merge_h (k := k) H12.out P1.out H2.out LL.out)
    rw [EM.out, AM.out] at MG
    clear h2 p2 k2
    go_wp2_with fail
    refine MG.out.mono ?_
    rintro e w3 ⟨v3, rfl, h3, p3, k3⟩
    have K3 := hide (K2.out.trans0 k3)
    have H3 := hide h3
    have SC3 := hide (SC.out _ K3.out)
    clear h3 p3 k3
    go_wp2_with fail
    refine SC3.out.mono ?_
    rintro e w4 ⟨v4, rfl, h4, p4, k4⟩
    have K4 := hide (K3.out.trans0 k4)
    have SM := hide (same_h (H3.out.keep k4) h4 LS.out)
    clear h4 p4 k4
    go_wp2_with fail
    refine SM.out.mono ?_
    rintro e w5 ⟨rfl, k5⟩
    have K5 := hide (K4.out.trans0 k5)
    clear k5
    go_wp2_with fail
    refine (WK.out _).mono ?_
    rintro e w6 ⟨rfl, k6⟩
    have K6 := hide (K5.out.trans0 k6)
    clear k6
    go_wp2_with fail
    go_ret
    exact ⟨rfl, K6.out.below (by simp) (Nat.le_refl _)⟩
theorem own : ownKnob Try.prog.godebug = none := by kernel_rfl
theorem laidOut : laidOutB Try.prog = true := by kernel_rfl
set_option maxRecDepth 100000 in
theorem lifted (os : Os) (started : os.Started) (H : Type) (enc : TypeId × Value → H) :
    ReturnsInHanded {} Try.checked os 9 .any (Rows.msortJoinsSpec.pre6 enc Try.prog Try.f9 Rows.msortJoinsRow.domain false) (Rows.msortJoinsSpec.post enc Try.prog Try.f9 false true false false) := by
  refine returnsInHanded_of_change (C := Try.checked) own started (by kernel_rfl) Try.func9
    (ChangeSpec.witness6 (enc := enc) (C := Try.checked) false ⟨#[], #[.slice none 0 0, .int .u8 0, .int .u8 0], []⟩ 8 (by kernel_rfl) (by kernel_rfl) (by kernel_rfl) (by kernel_rfl)) ?_
  intro W base args ds gs before hval0 hW hcnd _
  have hval : ∀ (j : Nat) t v, Try.f9.params[j]? = some t → args[j]? = some v → Value.okWide Try.prog W .any base t v := hval0
  have hW' := hW
  obtain ⟨p, q, hA0, hV, rfl, hfz, hnd⟩ := hW
  have hA : DataW.TrodAll enc Try.prog W 0 (fun _ => true) true Try.f9.params.toList args.toList ds p := hA0
  rw [Try.params9] at hA hval
  obtain ⟨v0, vs0, d0, ds0, p0, q0, hargs, rfl, rfl, h0, r0⟩ := trodAll_cons hA
  obtain ⟨v1, vs1, d1, ds1, p1, q1, rfl, rfl, rfl, h1, r1⟩ := trodAll_cons r0
  obtain ⟨v2, vs2, d2, ds2, p2, q2, rfl, rfl, rfl, h2, r2⟩ := trodAll_cons r1
  obtain ⟨rfl, rfl, rfl⟩ := trodAll_nil r2
  obtain rfl : args = #[v0, v1, v2] := by cases args; simp_all
  obtain ⟨rfl, rfl⟩ := trodVars_none hV
  have k0 := h0
  have lt0 : ∀ x ∈ p0, x.block < W.heap.size := by obtain ⟨m, hm⟩ := k0; exact DataW.trod_lt m _ _ _ hm
  have k1 := h1
  have lt1 : ∀ x ∈ p1, x.block < W.heap.size := by obtain ⟨m, hm⟩ := k1; exact DataW.trod_lt m _ _ _ hm
  have k2 := h2
  have lt2 : ∀ x ∈ p2, x.block < W.heap.size := by obtain ⟨m, hm⟩ := k2; exact DataW.trod_lt m _ _ _ hm
  obtain ⟨s0, len0, cap0, rfl⟩ := okWide_slice Try.underlying31 (hval 0 31 v0 rfl rfl)
  obtain ⟨V0, hc0, hr0⟩ := rows_in Try.underlying31 (flat_struct (ks := [.u64, .u64, .i64, .i64]) Try.underlying24 (by kernel_rfl) (by kernel_rfl)) (by decide) h0
  obtain ⟨a1, rfl, _, _, w1⟩ := open_int Try.underlying5 (hval 1 5 v1 rfl rfl) h1
  obtain ⟨a2, rfl, _, _, w2⟩ := open_int Try.underlying5 (hval 2 5 v2 rfl rfl) h2
  clear hA0 hval0
  refine (walk s0 len0 cap0 V0 a1 a2 W hc0 hr0 (bounds_u8 w1) (bounds_u8 w2)).mono fun e W' ⟨he, bel⟩ => ?_
  subst he
  exact ⟨_, rfl, _, _, _, [], _, [], hW', trodAll_mk1 (shut_bool Try.underlying4 _), (trodAll_cons_mk (Below.trod laidOut (by kernel_rfl) (of_decide_eq_true (by kernel_rfl)) k0 bel lt0) (trodAll_cons_mk (Below.trod laidOut (by kernel_rfl) (of_decide_eq_true (by kernel_rfl)) k1 bel lt1) (trodAll_cons_mk (Below.trod laidOut (by kernel_rfl) (of_decide_eq_true (by kernel_rfl)) k2 bel lt2) trodAll_mk0))), rfl, bel.frame _, fun h => by cases h⟩
theorem holds : Rows.msortJoinsRow.holds Try.pinned (OpenSpec.ofChange Rows.msortJoinsSpec) :=
  OpenClaim.holds_of_wide 9 Try.f9 rfl rfl rfl rfl rfl rfl rfl ⟨rfl, rfl, rfl, rfl, rfl⟩ rfl rfl rfl rfl rfl (by kernel_rfl) Try.func9 (by kernel_rfl)
    (of_decide_eq_true (by kernel_rfl)) (by unfold Func.isWrapper; first | (rw [if_pos (by decide +kernel)]; kernel_rfl) | (rw [if_neg (by decide +kernel)]; exact ⟨rfl, rfl⟩))
    (fun os started H enc _ => lifted os started H enc)
theorem proved : Rows.MsortJoinsSaid := holds
end lawJoins
end Go.Proofs.Ytiebmjdclicheaa
