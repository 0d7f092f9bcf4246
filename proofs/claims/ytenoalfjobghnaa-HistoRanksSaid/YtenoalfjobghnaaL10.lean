/- HistoRanks holds: up to the quantile there are enough numbers, and before it there are not; a greater fraction has no smaller quantile. -/
import Derived.Test.YtenoalfjobghnaaHQ
import Derived.Test.YtenoalfjobghnaaOp
import Derived.Test.YtenoalfjobghnaaRows
import Derived.Deep.CutRange
import Derived.StillTailTactics
set_option linter.unusedVariables false
set_option linter.unusedSimpArgs false
namespace Go.Proofs.Ytenoalfjobghnaa
open Go.RowKit
/-- a goal that is not laid open while terms are elaborated -/
structure Bx (p : Prop) : Prop where
  out : p
theorem wpStill_stepB {P : Program} {ops : Array Oper} {w : World} {Q : Act → Prop} {a : Act} {o : Oper} {rest : List Oper}
    (h : ∀ K : Act → Prop, (∀ a, Bx (wpStill P ops w Q rest a) → K a) → Bx (if Region.wanted o (yielded ops a.tmps) then o.still P a w K else K (a.put o.dst undef))) : Bx (wpStill P ops w Q (o :: rest) a) :=
  ⟨wpStill_step (fun K hK => (h K (fun a hb => hK a hb.out)).out)⟩
theorem wpStill_nilB {P : Program} {ops : Array Oper} {w : World} {Q : Act → Prop} {a : Act} (h : Q a) : Bx (wpStill P ops w Q [] a) := ⟨h⟩
namespace lawRanks
open Go.ChangeShapes Go.WideShapes Go.ChangeAt Go.RowKit Go.Joins
set_option maxRecDepth 100000 in
set_option maxHeartbeats 16000000 in
theorem walk (s0 : Option Addr) (len0 cap0 : Nat) (V0 : Nat → Nat → Int) (s1 : Option Addr) (len1 cap1 : Nat) (V1 : Nat → Nat → Int) (z2_0 : Int) (z2_1 : Int) (z2_2 : Int) (w : World) (hc0 : len0 ≤ cap0 ∧ cap0 ≤ maxLen) (hr0 : RowsI w s0 [.i64] len0 V0) (hc1 : len1 ≤ cap1 ∧ cap1 ≤ maxLen) (hr1 : RowsI w s1 [.i64, .i64] len1 V1) (b2_0 : 0 ≤ z2_0 ∧ z2_0 ≤ 4294967295) (b2_1 : 0 ≤ z2_1 ∧ z2_1 ≤ 4294967295) (b2_2 : 0 ≤ z2_2 ∧ z2_2 ≤ 4294967295) : Calls Try.prog 12 #[.slice s0 len0 cap0, .slice s1 len1 cap1, .agg #[.int .u32 z2_0, .int .u32 z2_1, .int .u32 z2_2]] w fun e w' => e = .returned (.bool true) ∧ Below w.heap.size w w' := by
  have R := rd_of hr0
  have ST := steps_of hr1
  generalize hV : (fun i => V0 i 0) = V at R
  generalize hX : (fun i => V1 i 0) = X at ST
  generalize hT : (fun i => V1 i 1) = T at ST
  clear hr0 hr1 hV hX hT
  obtain ⟨q0, rfl⟩ := Int.eq_ofNat_of_zero_le b2_0.1
  obtain ⟨q1, rfl⟩ := Int.eq_ofNat_of_zero_le b2_1.1
  obtain ⟨q2, rfl⟩ := Int.eq_ofNat_of_zero_le b2_2.1
  have HQ := hide (show q0 ≤ 4294967295 ∧ q1 ≤ 4294967295 ∧ q2 ≤ 4294967295 by omega)
  clear b2_0 b2_1 b2_2
  have KZ := hide (Kp.alloc (o := []) w (.cells #[.int .u32 (q0 : Int), .int .u32 (q1 : Int), .int .u32 (q2 : Int)] 64))
  by_cases hl0 : 200 < len0
  · have d0 : decide ((200 : Int) < (len0 : Int)) = true := by simp; omega
    have d0' : decide (200 < len0) = true := by simp; omega
    clear R ST hl0 hc0 hc1
    go_enter Try.func12, Try.ntmps12
    go_wp2_with fail
    refine (works _).mono ?_
    rintro e w2 ⟨rfl, bw⟩
    have HW := hide bw
    clear bw
    go_wp2_with fail
    go_ret
    exact ⟨rfl, (KZ.out.below (by simp) (Nat.le_refl _)).trans (HW.out.mono KZ.out.size)⟩
  have d0 : decide ((200 : Int) < (len0 : Int)) = false := by simp; omega
  have d0' : decide (200 < len0) = false := by simp; omega
  by_cases hl1 : 200 < len1
  · have d1 : decide ((200 : Int) < (len1 : Int)) = true := by simp; omega
    have d1' : decide (200 < len1) = true := by simp; omega
    clear R ST hl0 hl1 hc0 hc1
    go_enter Try.func12, Try.ntmps12
    go_wp2_with fail
    refine (works _).mono ?_
    rintro e w2 ⟨rfl, bw⟩
    have HW := hide bw
    clear bw
    go_wp2_with fail
    go_ret
    exact ⟨rfl, (KZ.out.below (by simp) (Nat.le_refl _)).trans (HW.out.mono KZ.out.size)⟩
  have d1 : decide ((200 : Int) < (len1 : Int)) = false := by simp; omega
  have d1' : decide (200 < len1) = false := by simp; omega
  have HL0 := hide hl0
  have HL1 := hide hl1
  by_cases inc : ¬ Inc V len0
  · have N := hide (new_e (c := cap0) (R.below KZ.out) (fun h => inc h.2))
    clear R ST hl0 hl1 hc0 hc1 inc
    go_enter Try.func12, Try.ntmps12
    go_wp2_with fail
    refine N.out.mono ?_
    rintro e w1 ⟨rfl, k⟩
    have K := hide (KZ.out.trans0 k)
    clear k
    go_wp2_with fail
    refine (works _).mono ?_
    rintro e w2 ⟨rfl, bw⟩
    have HW := hide bw
    clear bw
    go_wp2_with fail
    go_ret
    exact ⟨rfl, (K.out.below (by simp) (Nat.le_refl _)).trans (HW.out.mono K.out.size)⟩
  have inc := Classical.byContradiction inc
  have N := hide (new_i (c := cap0) (R.below KZ.out) (by omega) inc)
  have HST := hide ST
  have BZ : Hid ((w.alloc (.cells #[.int .u32 (q0 : Int), .int .u32 (q1 : Int), .int .u32 (q2 : Int)] 64)).heap[w.heap.size]? = some (.cells #[.int .u32 (q0 : Int), .int .u32 (q1 : Int), .int .u32 (q2 : Int)] 64 (0, 0))) := heap_alloc_new _ _
  clear R ST hl0 hl1 hc0 hc1 inc
  go_enter Try.func12, Try.ntmps12
  go_wp2_with fail
  refine N.out.mono ?_
  rintro e w1 ⟨ia, rfl, GA, k1⟩
  have K1 := hide (KZ.out.trans0 k1)
  have G1 := hide (GA.base KZ.out.size)
  have B1 := hide (k1.blk BZ.out (by simp))
  have oZ := hide (show w.heap.size ∉ ia.own from fun hx => by have := (GA.lt _ hx).1; simp at this; omega)
  obtain ⟨bz, hbz⟩ : ∃ b, b = w.heap.size := ⟨_, rfl⟩
  rw [← hbz] at B1 oZ ⊢
  clear GA k1 N BZ hbz
  go_wp2_with fail
  go_loopw [9] (fun i wr => ∃ k : Nat, i = .int .i64 (k : Int) ∧ Hid (k ≤ len1) ∧ Hid (∃ C, HI w.heap.size wr ia len0 V C ∧ sumI C (len0 + 1) ≤ k * 1048576) ∧ Hid (wr.heap[bz]? = some (.cells #[.int .u32 (q0 : Int), .int .u32 (q1 : Int), .int .u32 (q2 : Int)] 64 (0, 0))) ∧ Hid (Kp [] w wr)) (fun i _ => len1 - (intOf i).toNat)
  case atStart => exact ⟨0, rfl, Nat.zero_le _, ⟨_, G1.out, by rw [sumI_zero]; decide⟩, B1.out, K1.out⟩
  case round =>
    obtain ⟨k, rfl, hk, hC, hB, hK⟩ := hrel
    obtain ⟨C, hG, hS⟩ := hC.out
    have HG' := hide hG
    have HS' := hide hS
    clear hG hS hC
    by_cases hlt : k < len1
    · have dk : decide (k < len1) = true := by simpa using hlt
      have dk2 : decide ((k : Int) < (len1 : Int)) = true := by simpa using hlt
      have ww : IntKind.i64.wrap ((k : Int) + 1) = (k : Int) + 1 := by have := HL1.out; rw [IntKind.wrap_i64]; omega
      have b1 : (k : Int) < (len1 : Int) := by omega
      rcases HST.out with h0 | ⟨bb, off, rfl, hbb, hcc⟩
      · omega
      have cx := hcc k hlt
      have CX : Hid (∀ w', Kp [] w w' → w'.cell? ⟨bb, off + k * 2, none⟩ = some (.int .i64 (X k)) ∧ w'.cell? ⟨bb, off + k * 2 + 1, none⟩ = some (.int .i64 (T k))) := fun w' k' => ⟨(k'.at hbb _).trans cx.1, (k'.at hbb _).trans cx.2.1⟩
      obtain ⟨t, ht⟩ : ∃ t, t = cl 1048576 (T k) := ⟨_, rfl⟩
      have it := hide (show I64 t by rw [ht]; exact cl_64 cx.2.2.2 (by omega))
      have lt' := hide (show t ≤ 1048576 by rw [ht]; exact cl_le _ _)
      have mt : (if (1048576 : Int) < T k then 1048576 else T k) = t := by rw [ht]; rfl
      have HLT := hide hlt
      have AA := hide (add_s (HG'.out.keep0 (Kp.drewN [] wr 1)) (X k) t (k * 1048576) 1048576 it.out HS'.out lt'.out (by decide) (by have := HL1.out; omega))
      clear hcc cx ht hbb HST hlt
      generalize X k = x at *
      generalize T k = t0 at *
      have K0 : wr.drew.cell? ⟨bb, off + k * 2, none⟩ = some (.int .i64 x) ∧ wr.drew.cell? ⟨bb, off + k * 2 + 1, none⟩ = some (.int .i64 t0) := CX.out _ (hK.out.trans0 (Kp.drewN [] _ 1))
      go_wp2_with fail
      go_region_held3 (fun w' => w'.cell? ⟨bb, off + k * 2, none⟩ = some (.int .i64 x) ∧ w'.cell? ⟨bb, off + k * 2 + 1, none⟩ = some (.int .i64 t0))
        (with_reducible assumption)
        (first | (go_at_call 18; refine AA.out.mono ?_; rintro e w3 ⟨f3, rfl, g3, s3, k3⟩; have K3 := hide (Kp.outer (hK.out.trans0 (Kp.drewN [] _ 1)) k3 (fun z hz => (HG'.out.lt z hz).1)); have C3 : w3.cell? ⟨bb, off + k * 2, none⟩ = some (.int .i64 x) ∧ w3.cell? ⟨bb, off + k * 2 + 1, none⟩ = some (.int .i64 t0) := CX.out w3 K3.out; have G3 := hide g3; have S3 := hide s3; have B3 := hide (k3.blk (show wr.drew.heap[bz]? = _ from hB.out) oZ.out); clear g3 k3 s3))
      all_goals
        go_wp2_with fail
        go_roundw
        case rel => exact ⟨k + 1, by go_num, by have := HLT.out; show k + 1 ≤ len1; omega, ⟨_, G3.out, by have := S3.out; omega⟩, B3.out, K3.out⟩
        case measure => have := HLT.out; simp [intOf]; omega
    · have dk : decide (k < len1) = false := by simpa using hlt
      have dk2 : decide ((k : Int) < (len1 : Int)) = false := by simpa using hlt
      have z0 : wr.cell? ⟨bz, 0, none⟩ = some (.int .u32 (q0 : Int)) := by simp [cell_of_blk hB.out]
      have z1 : wr.cell? ⟨bz, 1, none⟩ = some (.int .u32 (q1 : Int)) := by simp [cell_of_blk hB.out]
      have z2 : wr.cell? ⟨bz, 2, none⟩ = some (.int .u32 (q2 : Int)) := by simp [cell_of_blk hB.out]
      obtain ⟨r0, hr0⟩ : ∃ r, r = q0 % 1048576 := ⟨_, rfl⟩
      obtain ⟨d, hd⟩ : ∃ d, d = r0 + 1 := ⟨_, rfl⟩
      obtain ⟨d1, hd1⟩ : ∃ x, x = d + 1 := ⟨_, rfl⟩
      obtain ⟨n, hn⟩ : ∃ x, x = q1 % d1 := ⟨_, rfl⟩
      obtain ⟨n1, hn1⟩ : ∃ x, x = n + 1 := ⟨_, rfl⟩
      obtain ⟨m, hm⟩ : ∃ x, x = q2 % n1 := ⟨_, rfl⟩
      have ln : n < d1 := by rw [hn]; exact Nat.mod_lt _ (by omega)
      have lm : m < n1 := by rw [hm]; exact Nat.mod_lt _ (by omega)
      have e0 : (q0 : Int).tmod 1048576 = (r0 : Int) := by rw [hr0]; rfl
      have e0' : (q0 : Int) % 1048576 = (r0 : Int) := by rw [hr0]; rfl
      have e1 : (q1 : Int).tmod (d1 : Int) = (n : Int) := by rw [hn]; rfl
      have e1' : (q1 : Int) % (d1 : Int) = (n : Int) := by rw [hn]; rfl
      have e2 : (q2 : Int).tmod (n1 : Int) = (m : Int) := by rw [hm]; rfl
      have e2' : (q2 : Int) % (n1 : Int) = (m : Int) := by rw [hm]; rfl
      have lr : r0 ≤ 1048575 := by omega
      have qq := HQ.out
      have w1' : IntKind.i64.wrap (r0 : Int) = (r0 : Int) := by rw [IntKind.wrap_i64]; omega
      have w2' : IntKind.i64.wrap ((r0 : Int) + 1) = (d : Int) := by rw [IntKind.wrap_i64]; omega
      have w3' : IntKind.i64.wrap (q1 : Int) = (q1 : Int) := by rw [IntKind.wrap_i64]; omega
      have w4' : IntKind.i64.wrap (q2 : Int) = (q2 : Int) := by rw [IntKind.wrap_i64]; omega
      have w5' : IntKind.i64.wrap ((d : Int) + 1) = (d1 : Int) := by rw [IntKind.wrap_i64]; omega
      have w6' : IntKind.i64.wrap ((n : Int) + 1) = (n1 : Int) := by rw [IntKind.wrap_i64]; omega
      have p1 : (1 : Int) ≤ (d1 : Int) := by omega
      have p2 : (1 : Int) ≤ (n1 : Int) := by omega
      have p3 : (d1 : Int) ≠ 0 := by omega
      have p4 : (n1 : Int) ≠ 0 := by omega
      have ND := hide (show m ≤ n ∧ n ≤ d ∧ 1 ≤ d ∧ d ≤ 1048576 by omega)
      clear hr0 hd hd1 hn hn1 hm ln lm lr qq hlt HST
      have SB : Hid (sumI C (len0 + 1) ≤ 209715200) := by have := HS'.out; have := hk.out; have := HL1.out; show _ ≤ _; omega
      have s0 := sumI_nn HG'.out.nn (len0 + 1) (Nat.le_refl _)
      by_cases hz : sumI C (len0 + 1) = 0
      · have Q1 := hide (quantile_none HG'.out.M HG'.out.hm HG'.out.nn (n : Int) (d : Int) (by omega) (by have := ND.out; omega) (by have := ND.out; omega) hz)
        have HZ := hide hz
        clear s0 hz
        go_wp2_with fail
        refine Q1.out.mono ?_
        rintro e w3 ⟨rfl, k3⟩
        have G3 := hide (HG'.out.keep0 k3)
        have K3 := hide (hK.out.trans0 k3)
        have Q2 := hide (quantile_none G3.out.M G3.out.hm G3.out.nn (m : Int) (d : Int) (by omega) (by have := ND.out; omega) (by have := ND.out; omega) HZ.out)
        clear k3 Q1 z0 z1 z2
        go_wp2_with fail
        refine Q2.out.mono ?_
        rintro e w4 ⟨rfl, k4⟩
        have G4 := hide (G3.out.keep0 k4)
        have K4 := hide (K3.out.trans0 k4)
        have TT := hide (total_t G4.out.M G4.out.hm G4.out.nn G4.out.top)
        rw [HZ.out] at TT
        clear k4 Q2 G3
        go_wp2_with fail
        refine TT.out.mono ?_
        rintro e w' ⟨rfl, rfl⟩
        go_wp2_with fail
        refine (works _).mono ?_
        rintro e w5 ⟨rfl, bw⟩
        have HW := hide bw
        clear bw
        go_wp2_with fail
        go_ret
        exact ⟨rfl, (K4.out.below (by simp) (Nat.le_refl _)).trans (HW.out.mono K4.out.size)⟩
      · have Q1 := hide (quantile_g HG'.out (n := (n : Int)) (d := (d : Int)) (by omega) (by have := ND.out; omega) (by have := ND.out; omega) (by have := ND.out; unfold I64; omega) (by have := ND.out; unfold I64; omega) (by omega))
        have HZ := hide hz
        have S0 := hide s0
        clear s0 hz
        go_wp2_with fail
        refine Q1.out.mono ?_
        rintro e w3 ⟨r, rfl, qr, k3⟩
        have G3 := hide (HG'.out.keep0 k3)
        have K3 := hide (hK.out.trans0 k3)
        have QR := hide qr
        have Q2 := hide (quantile_g G3.out (n := (m : Int)) (d := (d : Int)) (by omega) (by have := ND.out; omega) (by have := ND.out; omega) (by have := ND.out; unfold I64; omega) (by have := ND.out; unfold I64; omega) (by have := HZ.out; have := S0.out; omega))
        clear k3 Q1 z0 z1 z2 qr
        go_wp2_with fail
        refine Q2.out.mono ?_
        rintro e w4 ⟨s, rfl, qs, k4⟩
        have lsr := QR.out.mono qs (by have := ND.out; omega) S0.out
        have ds : decide ((r : Int) < (s : Int)) = false := by simp; omega
        have ds' : decide (r < s) = false := by simp; omega
        have G4 := hide (G3.out.keep0 k4)
        have K4 := hide (K3.out.trans0 k4)
        have TT := hide (fun W (k : Kp [] w4 W) => total_t (G4.out.keep0 k).M G4.out.hm G4.out.nn G4.out.top)
        have CO := hide (counts_t G4.out.M G4.out.hm)
        obtain ⟨m1, hm1⟩ : ∃ m1, m1 = len0 + 1 := ⟨_, rfl⟩
        have HM1 := hide hm1
        obtain ⟨tot, htot⟩ : ∃ t, t = sumI C (len0 + 1) := ⟨_, rfl⟩
        have HTOT := hide htot
        rw [← htot] at TT SB HZ S0
        rw [← hm1] at CO
        have dz : (tot == 0) = false := by have := HZ.out; simpa using this
        clear hm1 htot k4 Q2 G3 lsr qs
        go_wp2_with fail
        refine (TT.out _ (Kp.refl _ _)).mono ?_
        rintro e w' ⟨rfl, rfl⟩
        have r1 : r < m1 := by have := QR.out.1; have := HM1.out; omega
        have e1 : decide ((m1 : Int) ≤ (r : Int)) = false := by simp; omega
        have e2 : decide (m1 ≤ r) = false := by simp; omega
        have e3 : decide ((r : Int) < 0) = false := by simp
        go_wp2_with fail
        refine CO.out.mono ?_
        rintro e w6 ⟨v6, rfl, r6, k6⟩
        obtain ⟨p6, d6, rfl⟩ := row_slice r6
        have R6 := hide r6
        have K6 := hide (K4.out.trans0 k6)
        have TT6 := hide (fun W (k : Kp [] w6 W) => TT.out W (k6.trans0 k))
        clear r6 k6 CO TT
        go_wp2_with fail
        go_loop [18, 19] (fun a i => ∃ j : Nat, j ≤ r ∧ i = .int .i64 (j : Int) ∧ a = .int .i64 (sumI C j)) (fun _ i => r - (intOf i).toNat)
        case atStart => exact ⟨0, Nat.zero_le _, rfl, rfl⟩
        case round =>
          obtain ⟨j, hj, rfl, rfl⟩ := hrel
          by_cases hjl : j < r
          · have ej : decide (j < r) = true := by simpa using hjl
            have ej2 : decide ((j : Int) < (r : Int)) = true := by simpa using hjl
            have wj : IntKind.i64.wrap ((j : Int) + 1) = ((j + 1 : Nat) : Int) := by have := HL0.out; have := HM1.out; rw [IntKind.wrap_i64]; omega
            have bj : (j : Int) < (m1 : Int) := by omega
            obtain ⟨g, rfl, e1, _, _⟩ := row_cell R6.out (show j < m1 by omega)
            rw [intsI_get _ (show j < m1 by omega)] at e1
            have s1 := sumI_mono HG'.out.nn (len0 + 1) (j + 1) (by have := HM1.out; omega) (Nat.le_refl _)
            have s2 := sumI_nn HG'.out.nn (j + 1) (by have := HM1.out; omega)
            have s3 := HG'.out.top
            have NS := hide (show sumI C (j + 1) = sumI C j + C j from rfl)
            have wa : IntKind.i64.wrap (sumI C j + C j) = sumI C (j + 1) := by rw [IntKind.wrap_i64, ← NS.out]; omega
            clear s1 s2 s3 NS
            generalize sumI C j = z at *
            generalize C j = y at *
            go_wp2_with fail
            go_round
            case rel => exact ⟨j + 1, by omega, by first | rfl | go_num, rfl⟩
            case measure => simp [intOf]; omega
          · have : j = r := by omega
            subst this
            have ej : decide (j < j) = false := by simp
            have ej2 : decide ((j : Int) < (j : Int)) = false := by simp
            clear hj hjl
            have hj1 : j < len0 + 1 := by have := HM1.out; omega
            obtain ⟨g, rfl, c1, _, _⟩ := row_cell R6.out r1
            rw [intsI_get _ r1] at c1
            have bj : (j : Int) < (m1 : Int) := by omega
            have s1 := sumI_mono HG'.out.nn (len0 + 1) (j + 1) (by omega) (Nat.le_refl _)
            have s2 := sumI_nn HG'.out.nn (j + 1) (by omega)
            have s4 := sumI_nn HG'.out.nn j (by omega)
            have s3 := HG'.out.top
            have sb := SB.out
            rw [HTOT.out] at sb
            have NS : sumI C (j + 1) = sumI C j + C j := rfl
            have s5 := HG'.out.nn j hj1
            have wa : IntKind.i64.wrap (sumI C j + C j) = sumI C (j + 1) := by rw [IntKind.wrap_i64]; omega
            have nd := ND.out
            have q2 := QR.out.2.1
            have q3 := fun h => QR.out.2.2 (j - 1) h
            rw [← HTOT.out] at q2 q3
            have m1b : sumI C (j + 1) * (d : Int) ≤ 209715200 * 1048576 := Int.mul_le_mul (by omega) (by omega) (by omega) (by omega)
            have m1a : 0 ≤ sumI C (j + 1) * (d : Int) := Int.mul_nonneg s2 (by omega)
            have m2b : sumI C j * (d : Int) ≤ 209715200 * 1048576 := Int.mul_le_mul (by omega) (by omega) (by omega) (by omega)
            have m2a : 0 ≤ sumI C j * (d : Int) := Int.mul_nonneg s4 (by omega)
            have m3b : (n : Int) * tot ≤ 1048576 * 209715200 := Int.mul_le_mul (by omega) SB.out S0.out (by omega)
            have m3a : 0 ≤ (n : Int) * tot := Int.mul_nonneg (by omega) S0.out
            have WA := hide wa
            have x1 : IntKind.i64.wrap (sumI C (j + 1) * (d : Int)) = sumI C (j + 1) * (d : Int) := by rw [IntKind.wrap_i64]; omega
            have x2 : IntKind.i64.wrap (sumI C j * (d : Int)) = sumI C j * (d : Int) := by rw [IntKind.wrap_i64]; omega
            have x3 : IntKind.i64.wrap ((n : Int) * tot) = (n : Int) * tot := by rw [IntKind.wrap_i64]; omega
            have y1 : decide ((n : Int) * tot ≤ sumI C (j + 1) * (d : Int)) = true := by simpa using q2
            have y2 : Hid (0 < j → decide (sumI C j * (d : Int) < (n : Int) * tot) = true) := fun h => by have := q3 (by omega); rw [show j - 1 + 1 = j by omega] at this; simpa using this
            clear s1 s2 s3 s4 s5 sb NS nd q2 q3 m1a m1b m2a m2b m3a m3b WA
            obtain ⟨P1, hP1⟩ : ∃ p, p = sumI C (j + 1) * (d : Int) := ⟨_, rfl⟩
            obtain ⟨P2, hP2⟩ : ∃ p, p = (n : Int) * tot := ⟨_, rfl⟩
            obtain ⟨P3, hP3⟩ : ∃ p, p = sumI C j * (d : Int) := ⟨_, rfl⟩
            have x1' : IntKind.i64.wrap (sumI C (j + 1) * (d : Int)) = P1 := x1.trans hP1.symm
            have x2' : IntKind.i64.wrap (sumI C j * (d : Int)) = P3 := x2.trans hP3.symm
            have x3' : IntKind.i64.wrap ((n : Int) * tot) = P2 := x3.trans hP2.symm
            rw [← hP1, ← hP2] at y1
            rw [← hP3, ← hP2] at y2
            clear x1 x2 x3 hP1 hP2 hP3
            generalize sumI C (j + 1) = u at *
            generalize sumI C j = v at *
            generalize C j = y at *
            by_cases j0 : j = 0
            · have j1 : ((j : Int) == 0) = true := by simp; omega
              have HJ0 := hide j0
              clear j0
              go_wp2_with fail
              refine wp_region_still_tail 28 (by kernel_rfl) (by kernel_rfl) ?_
              simp only [List.take_succ_cons, List.take_zero, List.drop_succ_cons, List.drop_zero]
              generalize hwd : ({ w6 with drawn := w6.drawn + 1 } : World) = wd
              have KD : Kp [] w6 wd := by rw [← hwd]; exact Kp.drewN _ _ 1
              have e7 : wd.cell? ⟨g, j, none⟩ = some (.int .i64 y) := by rw [← hwd]; exact c1
              have TC : Calls Try.prog 31 #[.pointer (some ⟨ia.b, 0, none⟩)] wd fun e w'' => e = .returned (.int .i64 tot) ∧ w'' = wd := (TT6.out wd KD).mono (by rintro e w' ⟨rfl, rfl⟩; exact ⟨rfl, rfl⟩)
              have HKD := hide (K6.out.trans0 KD)
              have HTC := hide TC
              clear hwd KD c1 TC
              refine Bx.out ?_
              (refine wpStill_stepB (fun K hK => ?_); constructor; go_simp; refine hK _ ?_; clear hK K)
              (refine wpStill_stepB (fun K hK => ?_); constructor; go_simp; refine hK _ ?_; clear hK K)
              (refine wpStill_stepB (fun K hK => ?_); constructor; go_simp; refine hK _ ?_; clear hK K)
              (refine wpStill_stepB (fun K hK => ?_); constructor; go_simp; refine hK _ ?_; clear hK K)
              (refine wpStill_stepB (fun K hK => ?_); constructor; go_simp; refine hK _ ?_; clear hK K)
              (refine wpStill_stepB (fun K hK => ?_); constructor; go_simp; refine hK _ ?_; clear hK K)
              (refine wpStill_stepB (fun K hK => ?_); constructor; go_simp; refine hK _ ?_; clear hK K)
              (refine wpStill_stepB (fun K hK => ?_); constructor; go_simp; refine hK _ ?_; clear hK K)
              (refine wpStill_stepB (fun K hK => ?_); constructor; go_simp; refine hK _ ?_; clear hK K)
              (refine wpStill_stepB (fun K hK => ?_); constructor; go_simp; refine hK _ ?_; clear hK K)
              (refine wpStill_stepB (fun K hK => ?_); constructor; go_simp; refine ⟨.int .i64 tot, HTC.out, hK _ ?_⟩; clear hK K)
              (refine wpStill_stepB (fun K hK => ?_); constructor; go_simp; refine hK _ ?_; clear hK K)
              (refine wpStill_stepB (fun K hK => ?_); constructor; go_simp; refine hK _ ?_; clear hK K)
              (refine wpStill_stepB (fun K hK => ?_); constructor; go_simp; refine hK _ ?_; clear hK K)
              (refine wpStill_stepB (fun K hK => ?_); constructor; go_simp; refine hK _ ?_; clear hK K)
              (refine wpStill_stepB (fun K hK => ?_); constructor; go_simp; refine hK _ ?_; clear hK K)
              (refine wpStill_stepB (fun K hK => ?_); constructor; go_simp; refine hK _ ?_; clear hK K)
              (refine wpStill_stepB (fun K hK => ?_); constructor; go_simp; refine hK _ ?_; clear hK K)
              (refine wpStill_stepB (fun K hK => ?_); constructor; go_simp; refine hK _ ?_; clear hK K)
              (refine wpStill_stepB (fun K hK => ?_); constructor; go_simp; refine hK _ ?_; clear hK K)
              (refine wpStill_stepB (fun K hK => ?_); constructor; go_simp; refine hK _ ?_; clear hK K)
              (refine wpStill_stepB (fun K hK => ?_); constructor; go_simp; refine hK _ ?_; clear hK K)
              (refine wpStill_stepB (fun K hK => ?_); constructor; go_simp; refine hK _ ?_; clear hK K)
              (refine wpStill_stepB (fun K hK => ?_); constructor; go_simp; refine hK _ ?_; clear hK K)
              (refine wpStill_stepB (fun K hK => ?_); constructor; go_simp; refine hK _ ?_; clear hK K)
              (refine wpStill_stepB (fun K hK => ?_); constructor; go_simp; refine hK _ ?_; clear hK K)
              (refine wpStill_stepB (fun K hK => ?_); constructor; go_simp; refine hK _ ?_; clear hK K)
              (refine wpStill_stepB (fun K hK => ?_); constructor; go_simp; refine hK _ ?_; clear hK K)
              refine wpStill_nilB ?_
              go_wp2_with fail
              refine (works _).mono ?_
              rintro e w7 ⟨rfl, bw⟩
              have HW := hide bw
              clear bw
              go_wp2_with fail
              go_ret
              exact ⟨rfl, (HKD.out.below (by simp) (Nat.le_refl _)).trans (HW.out.mono HKD.out.size)⟩
            · have j1 : ((j : Int) == 0) = false := by simp; omega
              have y3 := y2.out (by omega)
              have HJ0 := hide j0
              clear j0
              go_wp2_with fail
              have KD : Kp [] w6 w6.drew := Kp.drewN _ _ 1
              have c1d : w6.drew.cell? ⟨g, j, none⟩ = some (.int .i64 y) := c1
              have TC := hide (TT6.out w6.drew KD)
              have gB := hide (R6.out.lt g rfl)
              have WK := hide (fun W (k : Kp [] w6 W) => works W)
              go_region_held3 (fun w' => w'.cell? ⟨g, j, none⟩ = some (.int .i64 y)) (first | with_reducible assumption)
                (first
                  | (go_at_call 31; refine TC.out.mono ?_; rintro e w' ⟨rfl, rfl⟩)
                  | (go_at_call 14; refine (works _).mono ?_; rintro e w7 ⟨rfl, bw⟩; have c7 : w7.cell? ⟨g, j, none⟩ = some (.int .i64 y) := (bw.cell (p := ⟨g, j, none⟩) gB.out.2).trans c1d; have HW := hide bw; clear bw))
              all_goals
                go_wp2_with fail
                go_ret
                exact ⟨rfl, ((K6.out.trans0 KD).below (by simp) (Nat.le_refl _)).trans (HW.out.mono (K6.out.trans0 KD).size)⟩
theorem own : ownKnob Try.prog.godebug = none := by kernel_rfl
theorem laidOut : laidOutB Try.prog = true := by kernel_rfl
set_option maxRecDepth 100000 in
theorem lifted (os : Os) (started : os.Started) (H : Type) (enc : TypeId × Value → H) :
    ReturnsInHanded {} Try.checked os 12 .any (Rows.histoRanksSpec.pre6 enc Try.prog Try.f12 Rows.histoRanksRow.domain false) (Rows.histoRanksSpec.post enc Try.prog Try.f12 false true false false) := by
  refine returnsInHanded_of_change (C := Try.checked) own started (by kernel_rfl) Try.func12
    (ChangeSpec.witness6 (enc := enc) (C := Try.checked) false ⟨#[], #[.slice none 0 0, .slice none 0 0, .agg #[.int .u32 0, .int .u32 0, .int .u32 0]], []⟩ 8 (by kernel_rfl) (by kernel_rfl) (by kernel_rfl) (by kernel_rfl)) ?_
  intro W base args ds gs before hval0 hW hcnd _
  have hval : ∀ (j : Nat) t v, Try.f12.params[j]? = some t → args[j]? = some v → Value.okWide Try.prog W .any base t v := hval0
  have hW' := hW
  obtain ⟨p, q, hA0, hV, rfl, hfz, hnd⟩ := hW
  have hA : DataW.TrodAll enc Try.prog W 0 (fun _ => true) true Try.f12.params.toList args.toList ds p := hA0
  rw [Try.params12] at hA hval
  obtain ⟨v0, vs0, d0, ds0, p0, q0, hargs, rfl, rfl, h0, r0⟩ := trodAll_cons hA
  obtain ⟨v1, vs1, d1, ds1, p1, q1, rfl, rfl, rfl, h1, r1⟩ := trodAll_cons r0
  obtain ⟨v2, vs2, d2, ds2, p2, q2, rfl, rfl, rfl, h2, r2⟩ := trodAll_cons r1
  obtain ⟨rfl, rfl, rfl⟩ := trodAll_nil r2
  obtain rfl : args = #[v0, v1, v2] := by cases args; simp_all
  obtain ⟨rfl, rfl⟩ := trodVars_none hV
  have k0 := h0
  have lt0 : ∀ x ∈ p0, x.block < W.heap.size := by obtain ⟨m, hm⟩ := k0; exact DataW.trod_lt m _ _ _ hm
  have k1 := h1
  have lt1 : ∀ x ∈ p1, x.block < W.heap.size := by obtain ⟨m, hm⟩ := k1; exact DataW.trod_lt m _ _ _ hm
  have k2 := h2
  have lt2 : ∀ x ∈ p2, x.block < W.heap.size := by obtain ⟨m, hm⟩ := k2; exact DataW.trod_lt m _ _ _ hm
  obtain ⟨s0, len0, cap0, rfl⟩ := okWide_slice Try.underlying22 (hval 0 22 v0 rfl rfl)
  obtain ⟨V0, hc0, hr0⟩ := rows_in Try.underlying22 (flat_int Try.underlying2 (by kernel_rfl)) (by decide) h0
  obtain ⟨s1, len1, cap1, rfl⟩ := okWide_slice Try.underlying33 (hval 1 33 v1 rfl rfl)
  obtain ⟨V1, hc1, hr1⟩ := rows_in Try.underlying33 (flat_struct (ks := [.i64, .i64]) Try.underlying36 (by kernel_rfl) (by kernel_rfl)) (by decide) h1
  obtain ⟨Z2, rfl, w2⟩ := agg_in (flat_array Try.underlying64 Try.underlying63 (by kernel_rfl) (by kernel_rfl) : FlatI Try.prog 64 [.u32, .u32, .u32]) (okWide_arr Try.underlying64 (hval 2 64 v2 rfl rfl)) h2
  clear hA0 hval0
  refine (walk s0 len0 cap0 V0 s1 len1 cap1 V1 (Z2 0) (Z2 1) (Z2 2) W hc0 hr0 hc1 hr1 (bounds_u32 (w2 0 _ rfl)) (bounds_u32 (w2 1 _ rfl)) (bounds_u32 (w2 2 _ rfl))).mono fun e W' ⟨he, bel⟩ => ?_
  subst he
  exact ⟨_, rfl, _, _, _, [], _, [], hW', trodAll_mk1 (shut_bool Try.underlying4 _), (trodAll_cons_mk (Below.trod laidOut (by kernel_rfl) (of_decide_eq_true (by kernel_rfl)) k0 bel lt0) (trodAll_cons_mk (Below.trod laidOut (by kernel_rfl) (of_decide_eq_true (by kernel_rfl)) k1 bel lt1) (trodAll_cons_mk (Below.trod laidOut (by kernel_rfl) (of_decide_eq_true (by kernel_rfl)) k2 bel lt2) trodAll_mk0))), rfl, bel.frame _, fun h => by cases h⟩
theorem holds : Rows.histoRanksRow.holds Try.pinned (OpenSpec.ofChange Rows.histoRanksSpec) :=
  OpenClaim.holds_of_wide 12 Try.f12 rfl rfl rfl rfl rfl rfl rfl ⟨rfl, rfl, rfl, rfl, rfl⟩ rfl rfl rfl rfl rfl (by kernel_rfl) Try.func12 (by kernel_rfl)
    (of_decide_eq_true (by kernel_rfl)) (by unfold Func.isWrapper; first | (rw [if_pos (by decide +kernel)]; kernel_rfl) | (rw [if_neg (by decide +kernel)]; exact ⟨rfl, rfl⟩))
    (fun os started H enc _ => lifted os started H enc)
theorem proved : Rows.HistoRanksSaid := holds
end lawRanks
end Go.Proofs.Ytenoalfjobghnaa
