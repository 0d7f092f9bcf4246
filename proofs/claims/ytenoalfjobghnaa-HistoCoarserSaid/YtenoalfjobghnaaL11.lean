/- HistoCoarser holds: without a bound, a number is counted in the bucket that has the same bounds otherwise; the total stays. -/
import Derived.Test.YtenoalfjobghnaaHY
import Derived.Test.YtenoalfjobghnaaOp
import Derived.Test.YtenoalfjobghnaaRows
import Derived.Deep.CutRange
import Derived.StillTailTactics
set_option linter.unusedVariables false
set_option linter.unusedSimpArgs false
namespace Go.Proofs.Ytenoalfjobghnaa
open Go.RowKit
namespace lawCoarser
open Go.ChangeShapes Go.WideShapes Go.ChangeAt Go.RowKit Go.Joins
set_option maxRecDepth 100000 in
set_option maxHeartbeats 16000000 in
theorem walk (s0 : Option Addr) (len0 cap0 : Nat) (V0 : Nat → Nat → Int) (s1 : Option Addr) (len1 cap1 : Nat) (V1 : Nat → Nat → Int) (a2 : Int) (w : World) (hc0 : len0 ≤ cap0 ∧ cap0 ≤ maxLen) (hr0 : RowsI w s0 [.i64] len0 V0) (hc1 : len1 ≤ cap1 ∧ cap1 ≤ maxLen) (hr1 : RowsI w s1 [.i64, .i64] len1 V1) (b2 : 0 ≤ a2 ∧ a2 ≤ 255) : Calls Try.prog 13 #[.slice s0 len0 cap0, .slice s1 len1 cap1, .int .u8 a2] w fun e w' => e = .returned (.bool true) ∧ Below w.heap.size w w' := by
  have R := rd_of hr0
  have ST := steps_of hr1
  generalize hV : (fun i => V0 i 0) = V at R
  generalize hX : (fun i => V1 i 0) = X at ST
  generalize hT : (fun i => V1 i 1) = T at ST
  clear hr0 hr1 hV hX hT
  obtain ⟨bnd, rfl⟩ := Int.eq_ofNat_of_zero_le b2.1
  have HB := hide (show bnd ≤ 255 by omega)
  clear b2
  by_cases hl0 : 200 < len0
  · have d0 : decide ((200 : Int) < (len0 : Int)) = true := by simp; omega
    have d0' : decide (200 < len0) = true := by simp; omega
    clear R ST hl0 hc0 hc1
    go_enter Try.func13, Try.ntmps13
    go_wp2_with fail
    refine (works _).mono ?_
    rintro e w2 ⟨rfl, bw⟩
    have HW := hide bw
    clear bw
    go_wp2_with fail
    go_ret
    exact ⟨rfl, HW.out⟩
  have d0 : decide ((200 : Int) < (len0 : Int)) = false := by simp; omega
  have d0' : decide (200 < len0) = false := by simp; omega
  by_cases hl1 : 200 < len1
  · have d1 : decide ((200 : Int) < (len1 : Int)) = true := by simp; omega
    have d1' : decide (200 < len1) = true := by simp; omega
    clear R ST hl0 hl1 hc0 hc1
    go_enter Try.func13, Try.ntmps13
    go_wp2_with fail
    refine (works _).mono ?_
    rintro e w2 ⟨rfl, bw⟩
    have HW := hide bw
    clear bw
    go_wp2_with fail
    go_ret
    exact ⟨rfl, HW.out⟩
  have d1 : decide ((200 : Int) < (len1 : Int)) = false := by simp; omega
  have d1' : decide (200 < len1) = false := by simp; omega
  have HL0 := hide hl0
  have HL1 := hide hl1
  by_cases hz : len0 = 0
  · subst hz
    clear R ST hl0 hl1 hc0 hc1
    go_enter Try.func13, Try.ntmps13
    go_wp2_with fail
    refine (works _).mono ?_
    rintro e w2 ⟨rfl, bw⟩
    have HW := hide bw
    clear bw
    go_wp2_with fail
    go_ret
    exact ⟨rfl, HW.out⟩
  have dz : ((len0 : Int) == 0) = false := by simp; omega
  have dz' : (len0 == 0) = false := by simpa using hz
  have dz'' : decide (len0 = 0) = false := by simpa using hz
  have HZ := hide hz
  clear hz
  by_cases inc : ¬ Inc V len0
  · have N := hide (new_e (c := cap0) R (fun h => inc h.2))
    clear R ST hl0 hl1 hc0 hc1 inc
    go_enter Try.func13, Try.ntmps13
    go_wp2_with fail
    refine N.out.mono ?_
    rintro e w1 ⟨rfl, k⟩
    have K := hide k
    clear k
    go_wp2_with fail
    refine (works _).mono ?_
    rintro e w2 ⟨rfl, bw⟩
    have HW := hide bw
    clear bw
    go_wp2_with fail
    go_ret
    exact ⟨rfl, (K.out.below (by simp) (Nat.le_refl _)).trans (HW.out.mono K.out.size)⟩
  have inc := Classical.byContradiction inc
  have N := hide (new_i (c := cap0) R (by omega) inc)
  have HST := hide ST
  have HRR := hide R
  have HINC := hide inc
  obtain ⟨at', hat⟩ : ∃ x, x = bnd % len0 := ⟨_, rfl⟩
  have lat := hide (show at' < len0 by rw [hat]; exact Nat.mod_lt _ (by have := HZ.out; omega))
  have m0 : (bnd : Int).tmod (len0 : Int) = (at' : Int) := by rw [hat]; rfl
  have m0' : (bnd : Int) % (len0 : Int) = (at' : Int) := by rw [hat]; rfl
  have wb : IntKind.i64.wrap (bnd : Int) = (bnd : Int) := by have := HB.out; rw [IntKind.wrap_i64]; omega
  have p1 : (1 : Int) ≤ (len0 : Int) := by have := HZ.out; omega
  have p3 : (len0 : Int) ≠ 0 := by have := HZ.out; omega
  obtain ⟨i0, hi, hz0, hz1, hz2⟩ := infoParts infoI
  have HInf := hide (And.intro hi (And.intro hz0 (And.intro hz1 hz2)))
  have m1 := fun (a : Int) W => lit1 a W
  clear R ST hl0 hl1 hc0 hc1 inc hat hi hz0 hz1 hz2
  go_enter Try.func13, Try.ntmps13
  go_wp2_with fail
  refine N.out.mono ?_
  rintro e w1 ⟨ia, rfl, g1, k1⟩
  have G1 := hide g1
  have K1 := hide k1
  clear g1 k1 N
  go_wp2_with fail
  clear m0 m0' wb p1 p3 dz dz' dz''
  go_loopw [10, 11] (fun r i wr => ∃ k : Nat, i = .int .i64 (k : Int) ∧ Hid (k ≤ len0) ∧ Hid (wr.ownsRow w1.heap.size 2 1 r (cnt at' k) (intsI (cnt at' k) (cut V at'))) ∧ Hid (Kp [] w1 wr)) (fun _ i _ => len0 - (intOf i).toNat)
  case atStart => exact ⟨0, rfl, Nat.zero_le _, World.ownsRow_nil _ _ _ _, Kp.refl _ _⟩
  case round =>
    obtain ⟨k, rfl, hk, hR, hK⟩ := hrel
    by_cases hlt : k < len0
    · have dk : decide (k < len0) = true := by simpa using hlt
      have dk2 : decide ((k : Int) < (len0 : Int)) = true := by simpa using hlt
      have ww : IntKind.i64.wrap ((k : Int) + 1) = (k : Int) + 1 := by have := HL0.out; rw [IntKind.wrap_i64]; omega
      have b1 : (k : Int) < (len0 : Int) := by omega
      have HLT := hide hlt
      by_cases ne : k = at'
      · have d3 : ((k : Int) == (at' : Int)) = true := by simp; omega
        have d3' : (k == at') = true := by simpa using ne
        have HNE := hide ne
        clear ne hlt HRR
        go_wp2_with fail
        go_roundw
        case rel => exact ⟨k + 1, by go_num, by have := HLT.out; show k + 1 ≤ len0; omega, by have q := hR.out; rw [HNE.out] at q; rw [HNE.out, cnt_skip]; exact q, hK.out⟩
        case measure => have := HLT.out; simp [intOf]; omega
      · have d3 : ((k : Int) == (at' : Int)) = false := by simp; omega
        have d3' : (k == at') = false := by simpa using ne
        rcases HRR.out.below (K1.out.trans0 hK.out) with h0 | ⟨g, off, rfl, hg, hc⟩
        · omega
        have e1 := hc k hlt
        have HNE := hide ne
        have HR' := hide ((Kp.alloc (o := []) wr (.cells #[.int .i64 (V k)] 2)).row hR.out (by simp))
        have CE := hide (cut_cnt V ne)
        have CL := hide (cnt_le at' k)
        clear hc hg ne hlt HRR
        obtain ⟨y, hy⟩ : ∃ y, y = V k := ⟨_, rfl⟩
        rw [← hy] at e1 HR' CE
        clear hy
        have my := m1 y
        go_wp2_with (at_builtin; refine wpList_append_own _ rfl _ _ 22 rfl w1.heap.size 2 i0 (.int .i64 0) 1 8 Try.underlying22 HInf.out.1 HInf.out.2.1 HInf.out.2.2.1 HInf.out.2.2.2 rfl (by decide) _ (cnt at' k) (intsI (cnt at' k) (cut V at')) rfl HR'.out ⟨wr.heap.size, 0, none⟩ 1 1 [.int .i64 y] rfl rfl (one_src wr (.int .i64 y) 2) (by simp [Value.oneCell']) (by have := CL.out; have := HLT.out; have := HL0.out; unfold maxLen; omega) (by have := CL.out; have := HLT.out; have := HL0.out; omega) (by have := hK.out.size; simp; omega) ?_)
        intro v' w' ho hg _
        rw [show (Value.int .i64 y) = .int .i64 (cut V at' (cnt at' k)) by rw [CE.out], ← intsI_snoc, ← cnt_next HNE.out] at ho
        have HO := hide ho
        have HK := hide ((hK.out.allocK _).grown hg (fun z hz => (hR.out.lt z hz).1))
        clear ho hg
        go_wp2_with fail
        go_roundw
        case rel => exact ⟨k + 1, by go_num, by have := HLT.out; show k + 1 ≤ len0; omega, HO.out, HK.out⟩
        case measure => have := HLT.out; simp [intOf]; omega
    · have hkn : k = len0 := by have := hk.out; omega
      subst hkn
      have dk : decide (k < k) = false := by simp
      have dk2 : decide ((k : Int) < (k : Int)) = false := by simp
      have hR' := hR.out
      rw [cnt_end lat.out] at hR'
      obtain ⟨n1, hn1⟩ : ∃ x, x = k - 1 := ⟨_, rfl⟩
      have HN1 := hide hn1
      rw [← hn1] at hR'
      obtain ⟨pr, cr, rfl⟩ := row_slice hR'
      have RR := hide hR'
      have N2 := hide (new_i (c := cr) (rd_any hR') (by have := HL0.out; omega) (show Inc (cut V at') n1 by rw [hn1]; exact cut_inc HINC.out))
      have GH := hide (G1.out.keep0 hK.out)
      have KK := hide (K1.out.trans0 hK.out)
      have sz1 := hide hK.out.size
      clear hn1 hR' hlt hR hK hk
      go_wp2_with fail
      refine N2.out.mono ?_
      rintro e w2 ⟨ib, rfl, g2, k2⟩
      have G2 := hide g2
      have GH2 := hide (GH.out.keep0 k2)
      have RR2 := hide (k2.row RR.out (by simp))
      have K2 := hide (KK.out.trans0 k2)
      have dR := hide (show (∀ z, (Value.slice pr n1 cr).ownBlock = some z → z ∉ ia.own) ∧ (∀ z, (Value.slice pr n1 cr).ownBlock = some z → z ∉ ib.own) from
        ⟨fun z hz hx => by have := (RR.out.lt z hz).1; have := (G1.out.lt z hx).2; omega, fun z hz hx => by have := (RR.out.lt z hz).2; have := (g2.lt z hx).1; omega⟩)
      have dAB := hide (dis_new GH.out g2 (Nat.le_refl _))
      have geA := hide (fun z (hz : z ∈ ia.own) => (G1.out.lt z hz).1)
      have geB := hide (fun z (hz : z ∈ ib.own) => Nat.le_trans KK.out.size (g2.lt z hz).1)
      have mz : mrg (fun _ => 0) at' = fun _ => 0 := by funext j; unfold mrg; split <;> (try split) <;> rfl
      have GW : Hid (HI w.heap.size w2 ib n1 (cut V at') (mrg (fun _ => 0) at')) := by rw [mz]; exact g2.base KK.out.size
      have BASE := hide sz1
      clear g2 k2 N2 mz GH RR
      go_wp2_with fail
      go_loopw [14] (fun i wr => ∃ j : Nat, i = .int .i64 (j : Int) ∧ Hid (j ≤ len1) ∧ Hid (∃ C, HI w.heap.size wr ia k V C ∧ HI w.heap.size wr ib n1 (cut V at') (mrg C at')) ∧ Hid (wr.ownsRow w1.heap.size 2 1 (.slice pr n1 cr) n1 (intsI n1 (cut V at'))) ∧ Hid (Kp [] w wr)) (fun i _ => len1 - (intOf i).toNat)
      case atStart => exact ⟨0, rfl, Nat.zero_le _, ⟨_, GH2.out, GW.out⟩, RR2.out, K2.out⟩
      case round =>
        obtain ⟨j, rfl, hj, hC, hrow, hK⟩ := hrel
        obtain ⟨C, hG, hW⟩ := hC.out
        have HG' := hide hG
        have HW0 := hide hW
        have HW' := hide (hW.keep0 (Kp.drewN [] _ 1))
        clear hG hW hC
        by_cases hlt : j < len1
        · have ek : decide (j < len1) = true := by simpa using hlt
          have ek2 : decide ((j : Int) < (len1 : Int)) = true := by simpa using hlt
          have wj : IntKind.i64.wrap ((j : Int) + 1) = (j : Int) + 1 := by have := HL1.out; rw [IntKind.wrap_i64]; omega
          have bj : (j : Int) < (len1 : Int) := by omega
          rcases HST.out with h0 | ⟨bb, off, rfl, hbb, hcc⟩
          · omega
          have cx := hcc j hlt
          have CX : Hid (∀ w', Kp [] w w' → w'.cell? ⟨bb, off + j * 2, none⟩ = some (.int .i64 (X j)) ∧ w'.cell? ⟨bb, off + j * 2 + 1, none⟩ = some (.int .i64 (T j))) := fun w' k' => ⟨(k'.at hbb _).trans cx.1, (k'.at hbb _).trans cx.2.1⟩
          have IT := hide cx.2.2.2
          have HLT := hide hlt
          have AD := hide (hadd (HG'.out.keep0 (Kp.drewN [] wr 1)) (X j) (T j) IT.out)
          have eM := hide (addE_mrg C lat.out (T j))
          have fM := hide (addF_mrg (C := C) HINC.out lat.out (X j) (T j))
          rw [← HN1.out] at eM fM
          have WA := hide (fun W (h : HI w.heap.size W ib n1 (cut V at') (mrg C at')) => hadd h (X j) (T j) IT.out)
          rw [eM.out, fM.out] at WA
          clear hcc cx hbb HST hlt eM fM
          generalize addE C k (T j) = f at AD WA
          generalize addF V k C (X j) (T j) = C' at AD WA
          generalize X j = x at *
          generalize T j = t at *
          have K0 : wr.drew.cell? ⟨bb, off + j * 2, none⟩ = some (.int .i64 x) ∧ wr.drew.cell? ⟨bb, off + j * 2 + 1, none⟩ = some (.int .i64 t) := CX.out _ (hK.out.trans0 (Kp.drewN [] _ 1))
          go_wp2_with fail
          go_region_held3 (fun w' => w'.cell? ⟨bb, off + j * 2, none⟩ = some (.int .i64 x) ∧ w'.cell? ⟨bb, off + j * 2 + 1, none⟩ = some (.int .i64 t))
            (with_reducible assumption)
            (first
              | (go_at_call_of 18 (Value.pointer (some ⟨ia.b, 0, none⟩)); refine AD.out.mono ?_; rintro e w3 ⟨rfl, g3, k3⟩; have K3 := hide (Kp.outer (hK.out.trans0 (Kp.drewN [] _ 1)) k3 geA.out); have C3 : w3.cell? ⟨bb, off + j * 2, none⟩ = some (.int .i64 x) ∧ w3.cell? ⟨bb, off + j * 2 + 1, none⟩ = some (.int .i64 t) := CX.out w3 K3.out; have G3 := hide g3; have W3 := hide (HI.keep (o := ia) HW'.out k3 (dis_symm dAB.out)); have Q3 := hide (k3.row ((Kp.drewN [] wr 1).row hrow.out (by simp)) dR.out.1); clear g3 k3)
              | (go_at_call_of 18 (Value.pointer (some ⟨ib.b, 0, none⟩)); refine (WA.out _ W3.out).mono ?_; rintro e w4 ⟨rfl, g4, k4⟩; have K4 := hide (Kp.outer K3.out k4 geB.out); have C4 : w4.cell? ⟨bb, off + j * 2, none⟩ = some (.int .i64 x) ∧ w4.cell? ⟨bb, off + j * 2 + 1, none⟩ = some (.int .i64 t) := CX.out w4 K4.out; have W4 := hide g4; have G4 := hide (HI.keep (a := ia) (o := ib) G3.out k4 dAB.out); have Q4 := hide (k4.row Q3.out dR.out.2); clear g4 k4))
          all_goals
            go_wp2_with fail
            go_roundw
            case rel => exact ⟨j + 1, by go_num, by have := HLT.out; show j + 1 ≤ len1; omega, ⟨_, G4.out, W4.out⟩, Q4.out, K4.out⟩
            case measure => have := HLT.out; simp [intOf]; omega
        · have ek : decide (j < len1) = false := by simpa using hlt
          have ek2 : decide ((j : Int) < (len1 : Int)) = false := by simpa using hlt
          have CO := hide (coarse_t HG'.out at' lat.out)
          rw [← HN1.out] at CO
          clear hlt HST HRR hj
          go_wp2_with fail
          refine CO.out.mono ?_
          rintro e w3 ⟨ic, rfl, g3, k3⟩
          have D3 := hide g3
          have A3 := hide (HG'.out.keep0 k3)
          have B3 := hide (HW0.out.keep0 k3)
          have Q3 := hide (k3.row hrow.out (by simp))
          have K3 := hide (hK.out.trans0 k3)
          have C1 := hide (counts_t g3.M g3.hm)
          obtain ⟨m1, hm1⟩ : ∃ m1, m1 = n1 + 1 := ⟨_, rfl⟩
          have HM1 := hide hm1
          have LN := hide g3.hm
          rw [← hm1] at C1
          clear g3 k3 CO HG' HW0 HW' hK hrow hm1
          go_wp2_with fail
          refine C1.out.mono ?_
          rintro e w4 ⟨v4, rfl, r4, k4⟩
          obtain ⟨p4, d4, rfl⟩ := row_slice r4
          have D4 := hide (D3.out.keep0 k4)
          have A4 := hide (A3.out.keep0 k4)
          have B4 := hide (B3.out.keep0 k4)
          have Q4 := hide (k4.row Q3.out (by simp))
          have K4 := hide (K3.out.trans0 k4)
          have R4 := hide r4
          have C2 := hide (counts_t B4.out.M B4.out.hm)
          rw [← HM1.out] at C2
          clear r4 k4 C1 D3 A3 B3 Q3 K3
          go_wp2_with fail
          refine C2.out.mono ?_
          rintro e w5 ⟨v5, rfl, r5, k5⟩
          obtain ⟨p5, d5, rfl⟩ := row_slice r5
          have D5 := hide (D4.out.keep0 k5)
          have A5 := hide (A4.out.keep0 k5)
          have Q5 := hide (k5.row Q4.out (by simp))
          have K5 := hide (K4.out.trans0 k5)
          have SM := hide (same_i w5 m1 (mrg C at') _ _ _ _ _ _ (k5.row R4.out (by simp)) r5 (by have := HM1.out; have := LN.out; omega))
          clear r5 k5 C2 D4 A4 B4 Q4 K4 R4
          go_wp2_with fail
          refine SM.out.mono ?_
          rintro e w6 ⟨rfl, k6⟩
          have D6 := hide (D5.out.keep0 k6)
          have A6 := hide (A5.out.keep0 k6)
          have Q6 := hide (k6.row Q5.out (by simp))
          have K6 := hide (K5.out.trans0 k6)
          have C1 := hide (bounds_t D6.out.M LN.out)
          clear k6 SM D5 A5 Q5 K5
          go_wp2_with fail
          refine C1.out.mono ?_
          rintro e w7 ⟨v7, rfl, r7, k7⟩
          obtain ⟨p7, d7, rfl⟩ := row_slice r7
          have D7 := hide (D6.out.keep0 k7)
          have A7 := hide (A6.out.keep0 k7)
          have K7 := hide (K6.out.trans0 k7)
          have SM := hide (same_i w7 n1 (cut V at') _ _ _ _ _ _ r7 (k7.row Q6.out (by simp)) (by have := LN.out; omega))
          clear r7 k7 C1 D6 A6 Q6 K6
          go_wp2_with fail
          refine SM.out.mono ?_
          rintro e w8 ⟨rfl, k8⟩
          have D8 := hide (D7.out.keep0 k8)
          have A8 := hide (A7.out.keep0 k8)
          have K8 := hide (K7.out.trans0 k8)
          have T1 := hide (total_t D8.out.M D8.out.hm D8.out.nn D8.out.top)
          have T2 := hide (total_t A8.out.M A8.out.hm A8.out.nn A8.out.top)
          have eS := mrg_sum' C lat.out
          rw [← HN1.out] at eS
          rw [eS] at T1
          clear k8 SM D7 A7 K7 eS
          generalize sumI C (k + 1) = z at *
          go_wp2_with fail
          refine T1.out.mono ?_
          rintro e w' ⟨rfl, rfl⟩
          go_wp2_with fail
          refine T2.out.mono ?_
          rintro e w' ⟨rfl, rfl⟩
          go_wp2_with fail
          refine (works _).mono ?_
          rintro e w9 ⟨rfl, bw⟩
          have HW := hide bw
          clear bw
          go_wp2_with fail
          go_ret
          exact ⟨rfl, (K8.out.below (by simp) (Nat.le_refl _)).trans (HW.out.mono K8.out.size)⟩
theorem own : ownKnob Try.prog.godebug = none := by kernel_rfl
theorem laidOut : laidOutB Try.prog = true := by kernel_rfl
set_option maxRecDepth 100000 in
theorem lifted (os : Os) (started : os.Started) (H : Type) (enc : TypeId × Value → H) :
    ReturnsInHanded {} Try.checked os 13 .any (Rows.histoCoarserSpec.pre6 enc Try.prog Try.f13 Rows.histoCoarserRow.domain false) (Rows.histoCoarserSpec.post enc Try.prog Try.f13 false true false false) := by
  refine returnsInHanded_of_change (C := Try.checked) own started (by kernel_rfl) Try.func13
    (ChangeSpec.witness6 (enc := enc) (C := Try.checked) false ⟨#[], #[.slice none 0 0, .slice none 0 0, .int .u8 0], []⟩ 8 (by kernel_rfl) (by kernel_rfl) (by kernel_rfl) (by kernel_rfl)) ?_
  intro W base args ds gs before hval0 hW hcnd _
  have hval : ∀ (j : Nat) t v, Try.f13.params[j]? = some t → args[j]? = some v → Value.okWide Try.prog W .any base t v := hval0
  have hW' := hW
  obtain ⟨p, q, hA0, hV, rfl, hfz, hnd⟩ := hW
  have hA : DataW.TrodAll enc Try.prog W 0 (fun _ => true) true Try.f13.params.toList args.toList ds p := hA0
  rw [Try.params13] at hA hval
  obtain ⟨v0, vs0, d0, ds0, p0, q0, hargs, rfl, rfl, h0, r0⟩ := trodAll_cons hA
  obtain ⟨v1, vs1, d1, ds1, p1, q1, rfl, rfl, rfl, h1, r1⟩ := trodAll_cons r0
  obtain ⟨v2, vs2, d2, ds2, p2, q2, rfl, rfl, rfl, h2, r2⟩ := trodAll_cons r1
  obtain ⟨rfl, rfl, rfl⟩ := trodAll_nil r2
  obtain rfl : args = #[v0, v1, v2] := by cases args; simp_all
  obtain ⟨rfl, rfl⟩ := trodVars_none hV
  have k0 := h0
  have lt0 : ∀ x ∈ p0, x.block < W.heap.size := by obtain ⟨m, hm⟩ := k0; exact DataW.trod_lt m _ _ _ hm
  have k1 := h1
  have lt1 : ∀ x ∈ p1, x.block < W.heap.size := by obtain ⟨m, hm⟩ := k1; exact DataW.trod_lt m _ _ _ hm
  have k2 := h2
  have lt2 : ∀ x ∈ p2, x.block < W.heap.size := by obtain ⟨m, hm⟩ := k2; exact DataW.trod_lt m _ _ _ hm
  obtain ⟨s0, len0, cap0, rfl⟩ := okWide_slice Try.underlying22 (hval 0 22 v0 rfl rfl)
  obtain ⟨V0, hc0, hr0⟩ := rows_in Try.underlying22 (flat_int Try.underlying2 (by kernel_rfl)) (by decide) h0
  obtain ⟨s1, len1, cap1, rfl⟩ := okWide_slice Try.underlying33 (hval 1 33 v1 rfl rfl)
  obtain ⟨V1, hc1, hr1⟩ := rows_in Try.underlying33 (flat_struct (ks := [.i64, .i64]) Try.underlying36 (by kernel_rfl) (by kernel_rfl)) (by decide) h1
  obtain ⟨a2, rfl, _, _, w2⟩ := open_int Try.underlying5 (hval 2 5 v2 rfl rfl) h2
  clear hA0 hval0
  refine (walk s0 len0 cap0 V0 s1 len1 cap1 V1 a2 W hc0 hr0 hc1 hr1 (bounds_u8 w2)).mono fun e W' ⟨he, bel⟩ => ?_
  subst he
  exact ⟨_, rfl, _, _, _, [], _, [], hW', trodAll_mk1 (shut_bool Try.underlying4 _), (trodAll_cons_mk (Below.trod laidOut (by kernel_rfl) (of_decide_eq_true (by kernel_rfl)) k0 bel lt0) (trodAll_cons_mk (Below.trod laidOut (by kernel_rfl) (of_decide_eq_true (by kernel_rfl)) k1 bel lt1) (trodAll_cons_mk (Below.trod laidOut (by kernel_rfl) (of_decide_eq_true (by kernel_rfl)) k2 bel lt2) trodAll_mk0))), rfl, bel.frame _, fun h => by cases h⟩
theorem holds : Rows.histoCoarserRow.holds Try.pinned (OpenSpec.ofChange Rows.histoCoarserSpec) :=
  OpenClaim.holds_of_wide 13 Try.f13 rfl rfl rfl rfl rfl rfl rfl ⟨rfl, rfl, rfl, rfl, rfl⟩ rfl rfl rfl rfl rfl (by kernel_rfl) Try.func13 (by kernel_rfl)
    (of_decide_eq_true (by kernel_rfl)) (by unfold Func.isWrapper; first | (rw [if_pos (by decide +kernel)]; kernel_rfl) | (rw [if_neg (by decide +kernel)]; exact ⟨rfl, rfl⟩))
    (fun os started H enc _ => lifted os started H enc)
theorem proved : Rows.HistoCoarserSaid := holds
end lawCoarser
end Go.Proofs.Ytenoalfjobghnaa
