/- HistoPlays holds: after every number that is counted, what the histogram shows is the document's. -/
import Derived.Test.YtenoalfjobghnaaHU
import Derived.Test.YtenoalfjobghnaaOp
import Derived.Test.YtenoalfjobghnaaRows
import Derived.Deep.CutRange
import Derived.StillTailTactics
set_option linter.unusedVariables false
set_option linter.unusedSimpArgs false
namespace Go.Proofs.Ytenoalfjobghnaa
open Go.RowKit
namespace lawPlays
open Go.ChangeShapes Go.WideShapes Go.ChangeAt Go.RowKit Go.Joins
set_option maxRecDepth 100000 in
set_option maxHeartbeats 16000000 in
theorem walk (s0 : Option Addr) (len0 cap0 : Nat) (V0 : Nat → Nat → Int) (s1 : Option Addr) (len1 cap1 : Nat) (V1 : Nat → Nat → Int) (a2 : Int) (w : World) (hc0 : len0 ≤ cap0 ∧ cap0 ≤ maxLen) (hr0 : RowsI w s0 [.i64] len0 V0) (hc1 : len1 ≤ cap1 ∧ cap1 ≤ maxLen) (hr1 : RowsI w s1 [.i64, .i64] len1 V1) (b2 : -9223372036854775808 ≤ a2 ∧ a2 ≤ 9223372036854775807) : Calls Try.prog 4 #[.slice s0 len0 cap0, .slice s1 len1 cap1, .int .i64 a2] w fun e w' => e = .returned (.bool true) ∧ Below w.heap.size w w' := by
  have R := rd_of hr0
  have ST := steps_of hr1
  generalize hV : (fun i => V0 i 0) = V at R
  generalize hX : (fun i => V1 i 0) = X at ST
  generalize hT : (fun i => V1 i 1) = T at ST
  clear hr0 hr1 hV hX hT b2
  by_cases hl0 : 200 < len0
  · have d0 : decide ((200 : Int) < (len0 : Int)) = true := by simp; omega
    have d0' : decide (200 < len0) = true := by simp; omega
    clear R ST hl0 hc0 hc1
    go_enter Try.func4, Try.ntmps4
    go_wp2_with fail
    refine (works _).mono ?_
    rintro e w2 ⟨rfl, bw⟩
    have HW := hide bw
    clear bw
    go_wp2_with fail
    go_ret
    exact ⟨rfl, HW.out⟩
  have d0 : decide ((200 : Int) < (len0 : Int)) = false := by simp; omega
  have d0' : decide (200 < len0) = false := by simp; omega
  by_cases hl1 : 200 < len1
  · have d1 : decide ((200 : Int) < (len1 : Int)) = true := by simp; omega
    have d1' : decide (200 < len1) = true := by simp; omega
    clear R ST hl0 hl1 hc0 hc1
    go_enter Try.func4, Try.ntmps4
    go_wp2_with fail
    refine (works _).mono ?_
    rintro e w2 ⟨rfl, bw⟩
    have HW := hide bw
    clear bw
    go_wp2_with fail
    go_ret
    exact ⟨rfl, HW.out⟩
  have d1 : decide ((200 : Int) < (len1 : Int)) = false := by simp; omega
  have d1' : decide (200 < len1) = false := by simp; omega
  have HL0 := hide hl0
  have HL1 := hide hl1
  obtain ⟨ok, hok⟩ : ∃ ok : Bool, ok = true ↔ okN len0 V := by
    by_cases h : okN len0 V
    · exact ⟨true, by simp [h]⟩
    · exact ⟨false, by simp [h]⟩
  have HOK := hide hok
  have HR := hide R
  have HST := hide ST
  have N := hide (new_b (c := cap0) R ok hok)
  have N2 := hide (fun W (k : Kp [] w W) => rnew_b (c := cap0) (HR.out.below k) ok HOK.out)
  generalize (if ok = true then (0 : Int) else 2) = er at N N2
  clear R ST hl0 hl1 hc0 hc1 hok
  go_enter Try.func4, Try.ntmps4
  go_wp2_with fail
  refine N.out.mono ?_
  rintro e w1 ⟨ia, p, rfl, g1, k1⟩
  have G1 := hide g1
  have K1 := hide k1
  have N3 := hide (N2.out _ k1)
  clear g1 k1 N N2
  go_wp2_with fail
  refine N3.out.mono ?_
  rintro e w2 ⟨ib, q, rfl, g2, k2⟩
  have dAB := hide (disB G1.out g2 (Nat.le_refl _))
  have dBA := hide (fun e => dis_symm (dAB.out e))
  have G2 := hide (G1.out.keep0 k2)
  have R2 := hide (g2.base K1.out.size)
  have K2 := hide (K1.out.trans0 k2)
  clear g2 k2 N3 G1 K1
  go_wp2_with fail
  go_loopw [11] (fun i wr => ∃ k : Nat, i = .int .i64 (k : Int) ∧ Hid (k ≤ len1) ∧ Hid (∃ C, HB ok w.heap.size wr ia len0 V C p ∧ RB ok w.heap.size wr ib len0 V C q) ∧ Hid (Kp [] w wr)) (fun i _ => len1 - (intOf i).toNat)
  case atStart => exact ⟨0, rfl, Nat.zero_le _, ⟨_, G2.out, R2.out⟩, K2.out⟩
  case round =>
    obtain ⟨k, rfl, hk, hC, hK⟩ := hrel
    obtain ⟨C, hG, hR⟩ := hC.out
    have HG' := hide hG
    have HR' := hide (hR.keep0 (Kp.drewN [] wr 1))
    clear hG hR hC
    by_cases hlt : k < len1
    · have dk : decide (k < len1) = true := by simpa using hlt
      have dk2 : decide ((k : Int) < (len1 : Int)) = true := by simpa using hlt
      have ww : IntKind.i64.wrap ((k : Int) + 1) = (k : Int) + 1 := by have := HL1.out; rw [IntKind.wrap_i64]; omega
      have b1 : (k : Int) < (len1 : Int) := by omega
      rcases HST.out with h0 | ⟨bb, off, rfl, hbb, hcc⟩
      · omega
      have cx := hcc k hlt
      have CX : Hid (∀ w', Kp [] w w' → w'.cell? ⟨bb, off + k * 2, none⟩ = some (.int .i64 (X k)) ∧ w'.cell? ⟨bb, off + k * 2 + 1, none⟩ = some (.int .i64 (T k))) := fun w' k' => ⟨(k'.at hbb _).trans cx.1, (k'.at hbb _).trans cx.2.1⟩
      have IT := hide cx.2.2.2
      have HLT := hide hlt
      have AD := hide (add_b (HG'.out.keep0 (Kp.drewN [] wr 1)) (X k) (T k) IT.out)
      have RA := hide (fun W (h : RB ok w.heap.size W ib len0 V C q) => radd_b h (X k) (T k) IT.out)
      clear hcc cx hbb HST hlt
      generalize hf : adE ok C len0 (T k) = f at AD RA
      generalize hC' : adF ok V len0 C (X k) (T k) = C' at AD RA
      clear hf hC'
      generalize X k = x at *
      generalize T k = t at *
      have BU := hide (fun W C (h : HB ok w.heap.size W ia len0 V C p) => bucket_b h x)
      have RU := hide (fun W C (h : RB ok w.heap.size W ib len0 V C q) => rbucket_b h x)
      generalize bkE ok V x len0 = y at *
      have K0 : wr.drew.cell? ⟨bb, off + k * 2, none⟩ = some (.int .i64 x) ∧ wr.drew.cell? ⟨bb, off + k * 2 + 1, none⟩ = some (.int .i64 t) := CX.out _ (hK.out.trans0 (Kp.drewN [] _ 1))
      go_wp2_with fail
      go_region_held3 (fun w' => w'.cell? ⟨bb, off + k * 2, none⟩ = some (.int .i64 x) ∧ w'.cell? ⟨bb, off + k * 2 + 1, none⟩ = some (.int .i64 t))
        (with_reducible assumption)
        (first
          | (go_at_call 18; refine AD.out.mono ?_; rintro e w3 ⟨rfl, g3, k3⟩; have K3 := hide (Kp.outer (hK.out.trans0 (Kp.drewN [] _ 1)) k3 HG'.out.ge); have C3 : w3.cell? ⟨bb, off + k * 2, none⟩ = some (.int .i64 x) ∧ w3.cell? ⟨bb, off + k * 2 + 1, none⟩ = some (.int .i64 t) := CX.out w3 K3.out; have G3 := hide g3; have R3 := hide (HR'.out.keep k3 dBA.out); clear g3 k3)
          | (go_at_call 19; refine (RA.out _ R3.out).mono ?_; rintro e w4 ⟨rfl, g4, k4⟩; have K4 := hide (Kp.outer K3.out k4 HR'.out.ge); have C4 : w4.cell? ⟨bb, off + k * 2, none⟩ = some (.int .i64 x) ∧ w4.cell? ⟨bb, off + k * 2 + 1, none⟩ = some (.int .i64 t) := CX.out w4 K4.out; have R4 := hide g4; have G4 := hide (G3.out.keep k4 dAB.out); clear g4 k4)
          | (go_at_call 17; refine (agree_b G4.out R4.out _).mono ?_; rintro e w5 ⟨rfl, k5⟩; have K5 := hide (K4.out.trans0 k5); have C5 : w5.cell? ⟨bb, off + k * 2, none⟩ = some (.int .i64 x) ∧ w5.cell? ⟨bb, off + k * 2 + 1, none⟩ = some (.int .i64 t) := CX.out w5 K5.out; have R5 := hide (R4.out.keep0 k5); have G5 := hide (G4.out.keep0 k5); clear k5)
          | (go_at_call 20; refine (BU.out _ _ G5.out).mono ?_; rintro e w6 ⟨rfl, k6⟩; have K6 := hide (K5.out.trans0 k6); have C6 : w6.cell? ⟨bb, off + k * 2, none⟩ = some (.int .i64 x) ∧ w6.cell? ⟨bb, off + k * 2 + 1, none⟩ = some (.int .i64 t) := CX.out w6 K6.out; have R6 := hide (R5.out.keep0 k6); have G6 := hide (G5.out.keep0 k6); clear k6)
          | (go_at_call 21; refine (RU.out _ _ R6.out).mono ?_; rintro e w' ⟨rfl, rfl⟩))
      all_goals
        go_wp2_with fail
        go_roundw
        case rel => exact ⟨k + 1, by go_num, by have := HLT.out; show k + 1 ≤ len1; omega, ⟨_, G6.out, R6.out⟩, K6.out⟩
        case measure => have := HLT.out; simp [intOf]; omega
    · have dk : decide (k < len1) = false := by simpa using hlt
      have dk2 : decide ((k : Int) < (len1 : Int)) = false := by simpa using hlt
      clear hlt
      go_wp2_with fail
      refine (works _).mono ?_
      rintro e w5 ⟨rfl, bw⟩
      have HW := hide bw
      clear bw
      go_wp2_with fail
      go_ret
      exact ⟨rfl, (hK.out.below (by simp) (Nat.le_refl _)).trans (HW.out.mono hK.out.size)⟩
theorem own : ownKnob Try.prog.godebug = none := by kernel_rfl
theorem laidOut : laidOutB Try.prog = true := by kernel_rfl
set_option maxRecDepth 100000 in
theorem lifted (os : Os) (started : os.Started) (H : Type) (enc : TypeId × Value → H) :
    ReturnsInHanded {} Try.checked os 4 .any (Rows.histoPlaysSpec.pre6 enc Try.prog Try.f4 Rows.histoPlaysRow.domain false) (Rows.histoPlaysSpec.post enc Try.prog Try.f4 false true false false) := by
  refine returnsInHanded_of_change (C := Try.checked) own started (by kernel_rfl) Try.func4
    (ChangeSpec.witness6 (enc := enc) (C := Try.checked) false ⟨#[], #[.slice none 0 0, .slice none 0 0, .int .i64 0], []⟩ 8 (by kernel_rfl) (by kernel_rfl) (by kernel_rfl) (by kernel_rfl)) ?_
  intro W base args ds gs before hval0 hW hcnd _
  have hval : ∀ (j : Nat) t v, Try.f4.params[j]? = some t → args[j]? = some v → Value.okWide Try.prog W .any base t v := hval0
  have hW' := hW
  obtain ⟨p, q, hA0, hV, rfl, hfz, hnd⟩ := hW
  have hA : DataW.TrodAll enc Try.prog W 0 (fun _ => true) true Try.f4.params.toList args.toList ds p := hA0
  rw [Try.params4] at hA hval
  obtain ⟨v0, vs0, d0, ds0, p0, q0, hargs, rfl, rfl, h0, r0⟩ := trodAll_cons hA
  obtain ⟨v1, vs1, d1, ds1, p1, q1, rfl, rfl, rfl, h1, r1⟩ := trodAll_cons r0
  obtain ⟨v2, vs2, d2, ds2, p2, q2, rfl, rfl, rfl, h2, r2⟩ := trodAll_cons r1
  obtain ⟨rfl, rfl, rfl⟩ := trodAll_nil r2
  obtain rfl : args = #[v0, v1, v2] := by cases args; simp_all
  obtain ⟨rfl, rfl⟩ := trodVars_none hV
  have k0 := h0
  have lt0 : ∀ x ∈ p0, x.block < W.heap.size := by obtain ⟨m, hm⟩ := k0; exact DataW.trod_lt m _ _ _ hm
  have k1 := h1
  have lt1 : ∀ x ∈ p1, x.block < W.heap.size := by obtain ⟨m, hm⟩ := k1; exact DataW.trod_lt m _ _ _ hm
  have k2 := h2
  have lt2 : ∀ x ∈ p2, x.block < W.heap.size := by obtain ⟨m, hm⟩ := k2; exact DataW.trod_lt m _ _ _ hm
  obtain ⟨s0, len0, cap0, rfl⟩ := okWide_slice Try.underlying22 (hval 0 22 v0 rfl rfl)
  obtain ⟨V0, hc0, hr0⟩ := rows_in Try.underlying22 (flat_int Try.underlying2 (by kernel_rfl)) (by decide) h0
  obtain ⟨s1, len1, cap1, rfl⟩ := okWide_slice Try.underlying33 (hval 1 33 v1 rfl rfl)
  obtain ⟨V1, hc1, hr1⟩ := rows_in Try.underlying33 (flat_struct (ks := [.i64, .i64]) Try.underlying36 (by kernel_rfl) (by kernel_rfl)) (by decide) h1
  obtain ⟨a2, rfl, _, _, w2⟩ := open_int Try.underlying2 (hval 2 2 v2 rfl rfl) h2
  clear hA0 hval0
  refine (walk s0 len0 cap0 V0 s1 len1 cap1 V1 a2 W hc0 hr0 hc1 hr1 (bounds_i64 w2)).mono fun e W' ⟨he, bel⟩ => ?_
  subst he
  exact ⟨_, rfl, _, _, _, [], _, [], hW', trodAll_mk1 (shut_bool Try.underlying4 _), (trodAll_cons_mk (Below.trod laidOut (by kernel_rfl) (of_decide_eq_true (by kernel_rfl)) k0 bel lt0) (trodAll_cons_mk (Below.trod laidOut (by kernel_rfl) (of_decide_eq_true (by kernel_rfl)) k1 bel lt1) (trodAll_cons_mk (Below.trod laidOut (by kernel_rfl) (of_decide_eq_true (by kernel_rfl)) k2 bel lt2) trodAll_mk0))), rfl, bel.frame _, fun h => by cases h⟩
theorem holds : Rows.histoPlaysRow.holds Try.pinned (OpenSpec.ofChange Rows.histoPlaysSpec) :=
  OpenClaim.holds_of_wide 4 Try.f4 rfl rfl rfl rfl rfl rfl rfl ⟨rfl, rfl, rfl, rfl, rfl⟩ rfl rfl rfl rfl rfl (by kernel_rfl) Try.func4 (by kernel_rfl)
    (of_decide_eq_true (by kernel_rfl)) (by unfold Func.isWrapper; first | (rw [if_pos (by decide +kernel)]; kernel_rfl) | (rw [if_neg (by decide +kernel)]; exact ⟨rfl, rfl⟩))
    (fun os started H enc _ => lifted os started H enc)
theorem proved : Rows.HistoPlaysSaid := holds
end lawPlays
end Go.Proofs.Ytenoalfjobghnaa
