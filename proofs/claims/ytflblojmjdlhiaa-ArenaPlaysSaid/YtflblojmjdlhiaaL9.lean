/- ArenaPlays: the law answers true at every argument: after every step of a script, its result and all that the arena shows are the document's. No condition. -/
import Derived.Test.YtflblojmjdlhiaaRT
import Derived.Test.YtflblojmjdlhiaaOp
import Derived.Test.YtflblojmjdlhiaaRows
import Derived.Deep.CutRange
set_option linter.unusedVariables false
set_option linter.unusedSimpArgs false
namespace Go.Proofs.Ytflblojmjdlhiaa
open Go.RowKit
theorem same_nil (w : World) : Calls Try.prog 30 #[.slice none 0 0, .slice none 0 0] w fun e w' => e = .returned (.bool true) ∧ Kp [] w w' :=
  same_t w [] 0 0 none none 0 0 (World.ownsRow_nil _ _ _ _) (World.ownsRow_nil _ _ _ _) (by simp)
theorem list_nil (w : World) : Calls Try.prog 27 #[.pointer none] w fun e w' => e = .returned (.slice none 0 0) ∧ w = w' := by
  have ht := valid_nil w
  go_enter Try.func27, Try.ntmps27
  go_wp2_with (go_at_call 37; refine ht.mono ?_; rintro e w' ⟨rfl, rfl⟩)
  go_ret
  exact ⟨rfl, rfl⟩
set_option maxRecDepth 100000 in
set_option maxHeartbeats 4000000 in
theorem agree_nil (i : Int) (w : World) : Calls Try.prog 14 #[.pointer none, .pointer none, .int .i64 i] w fun e w' => e = .returned (.bool true) ∧ Kp [] w w' := by
  go_enter Try.func14, Try.ntmps14
  go_wp2_with (first | (go_at_call 22; refine (next_f _ _ (.inl rfl)).mono ?_; rintro e w' ⟨rfl, rfl⟩) | (go_at_call 31; refine (rnext_nil _).mono ?_; rintro e w' ⟨rfl, rfl⟩) | (go_at_call 23; refine (used_f _ _ _ (.inl rfl)).mono ?_; rintro e w' ⟨rfl, rfl⟩) | (go_at_call 32; refine (rused_nil _ _).mono ?_; rintro e w' ⟨rfl, rfl⟩) | (go_at_call 24; refine (times_f _ _ _ (.inl rfl)).mono ?_; rintro e w' ⟨rfl, rfl⟩) | (go_at_call 33; refine (rtimes_nil _ _).mono ?_; rintro e w' ⟨rfl, rfl⟩) | (go_at_call 25; refine (len_f _ _ (.inl rfl)).mono ?_; rintro e w' ⟨rfl, rfl⟩) | (go_at_call 34; refine (rlen_nil _).mono ?_; rintro e w' ⟨rfl, rfl⟩) | (go_at_call 26; refine (cap_f _ _ (.inl rfl)).mono ?_; rintro e w' ⟨rfl, rfl⟩) | (go_at_call 35; refine (rcap_nil _).mono ?_; rintro e w' ⟨rfl, rfl⟩) | (go_at_call 27; refine (list_nil _).mono ?_; rintro e w' ⟨rfl, rfl⟩) | (go_at_call 36; refine (rlist_nil _).mono ?_; rintro e w' ⟨rfl, rfl⟩) | (go_at_call 30; refine (same_nil _).mono ?_; rintro e w' ⟨rfl, k6⟩; have K6 := hide k6; clear k6))
  go_ret
  exact ⟨by simp, K6.out⟩
theorem both_new (n : Nat) (h : n ≤ 65536) (w : World) :
    Calls Try.prog 12 #[.int .i64 (n : Int)] w fun e w1 => ∃ b, e = .returned (.tuple #[.pointer (some ⟨b, 0, none⟩), .int .i64 0]) ∧
      Calls Try.prog 13 #[.int .i64 (n : Int)] w1 fun e w2 => ∃ r, e = .returned (.tuple #[.pointer (some ⟨r, 0, none⟩), .int .i64 0]) ∧ Pr w w2 b r ⟨n, [], []⟩ := by
  refine (new_at (B := w.heap.size) n h w (Nat.le_refl _)).mono ?_
  rintro e w1 ⟨rfl, h1, k1⟩
  refine ⟨_, rfl, (rnew_ok n h w1).mono ?_⟩
  rintro e w2 ⟨r, own, rfl, h2, k2⟩
  have s1 : w.heap.size ≤ w1.heap.size := k1.size
  refine ⟨r, rfl, ⟨_, own, h1.keep k2 (by simp), ?_, (k1.trans k2 (by simp)).below (by simp) (Nat.le_refl _), fun x hx hy => ?_, fun i hi => by simp at hi⟩⟩
  · obtain ⟨vI, vC, vR, M, rfl⟩ := h2
    exact ⟨vI, vC, vR, ⟨M.blk, row_mono M.I s1, row_mono M.C s1, row_mono M.R s1, by have := M.ge; omega, M.nd⟩, rfl⟩
  · have := (h1.lt x hx).2
    have := (h2.lt x hy).1
    omega
theorem copy_nil (w : World) : Calls Try.prog 20 #[.pointer none] w fun e w' => e = .returned (.pointer none) ∧ w = w' := by
  have ht := valid_nil w
  go_enter Try.func20, Try.ntmps20
  go_wp2_with (go_at_call 37; refine ht.mono ?_; rintro e w' ⟨rfl, rfl⟩)
  go_ret
  exact ⟨rfl, rfl⟩
namespace lawPlays
open Go.ChangeShapes Go.WideShapes Go.ChangeAt Go.RowKit Go.Joins
set_option maxRecDepth 100000 in
set_option maxHeartbeats 16000000 in
theorem walk (a0 : Int) (s1 : Option Addr) (len1 cap1 : Nat) (V1 : Nat → Nat → Int) (a2 : Int) (w : World) (b0 : -9223372036854775808 ≤ a0 ∧ a0 ≤ 9223372036854775807) (hc1 : len1 ≤ cap1 ∧ cap1 ≤ maxLen) (hr1 : RowsI w s1 [.i64, .i64] len1 V1) (b2 : -9223372036854775808 ≤ a2 ∧ a2 ≤ 9223372036854775807) : Calls Try.prog 4 #[.int .i64 a0, .slice s1 len1 cap1, .int .i64 a2] w fun e w' => e = .returned (.bool true) ∧ Below w.heap.size w w' := by
  have hp := up22
  have hp2 := up26
  have HR := hide hr1
  clear hc1 hr1 b2
  by_cases h500 : 500 < a0
  · have d0 : decide (500 < a0) = true := by simpa using h500
    clear h500 b0
    go_enter Try.func4, Try.ntmps4
    go_wp2_with (go_at_call 15; refine (works _).mono ?_; rintro e w5 ⟨rfl, b5⟩; have H5 := hide b5; clear b5)
    go_ret
    exact ⟨rfl, H5.out⟩
  have d0 : decide (500 < a0) = false := by simpa using h500
  by_cases h200 : 200 < len1
  · have d1 : decide (200 < len1) = true := by simpa using h200
    have d1' : decide ((200 : Int) < (len1 : Int)) = true := by simp; omega
    clear h500 b0 h200
    go_enter Try.func4, Try.ntmps4
    go_wp2_with (go_at_call 15; refine (works _).mono ?_; rintro e w5 ⟨rfl, b5⟩; have H5 := hide b5; clear b5)
    go_ret
    exact ⟨rfl, H5.out⟩
  have d1 : decide (200 < len1) = false := by simpa using h200
  have d1' : decide ((200 : Int) < (len1 : Int)) = false := by simp; omega
  have HL := hide (show len1 ≤ 200 by omega)
  by_cases hneg : a0 < 0
  · have N1 := hide (fun w => (new_no a0 (.inl hneg) w).mono (fun e w' h => (show e = _ ∧ w = w' from ⟨h.1, h.2.symm⟩)))
    have N2 := hide (fun w => (rnew_no a0 (.inl hneg) w).mono (fun e w' h => (show e = _ ∧ w = w' from ⟨h.1, h.2.symm⟩)))
    clear hneg h500 b0 h200
    go_enter Try.func4, Try.ntmps4
    go_wp2_with (first | (go_at_call 12; refine (N1.out _).mono ?_; rintro e w' ⟨rfl, rfl⟩) | (go_at_call 13; refine (N2.out _).mono ?_; rintro e w' ⟨rfl, rfl⟩))
    go_loopw [7, 9, 11] (fun a r k wr => ∃ q : Nat, a = .pointer none ∧ r = .pointer none ∧ k = .int .i64 (q : Int) ∧ Hid (q ≤ len1) ∧ Hid (Below w.heap.size w wr)) (fun _ _ k _ => len1 - (intOf k).toNat)
    case atStart => exact ⟨0, rfl, rfl, rfl, Nat.zero_le _, Below.refl _ _⟩
    case round =>
      obtain ⟨q, rfl, rfl, rfl, hq, hB⟩ := hrel
      by_cases hlt : q < len1
      · have dk : decide (q < len1) = true := by simpa using hlt
        have ww : IntKind.i64.wrap ((q : Int) + 1) = (q : Int) + 1 := by have := HL.out; rw [IntKind.wrap_i64]; omega
        obtain ⟨bb, off, hs, hbb, hD, hI⟩ := rowsI_two HR.out hlt
        have cD : wr.cell? ⟨bb, off + q * 2, none⟩ = some (.int .i64 (V1 q 0)) := by rw [hB.out.cell (p := ⟨bb, off + q * 2, none⟩) hbb]; exact hD
        have cI : wr.cell? ⟨bb, off + q * 2 + 1, none⟩ = some (.int .i64 (V1 q 1)) := by rw [hB.out.cell (p := ⟨bb, off + q * 2 + 1, none⟩) hbb]; exact hI
        have HI2 := hide hI
        have HB2 := hide hbb
        subst hs
        clear hD hI hbb
        have HK := hide hlt
        generalize V1 q 1 = x at *
        by_cases e0 : V1 q 0 = 0
        · rw [e0] at cD
          clear e0
          go_wp2_with (first | (go_at_call 16; refine (alloc_f _ _ (.inl rfl)).mono ?_; rintro e w' ⟨rfl, rfl⟩) | (go_at_call 17; refine (ralloc_nil _).mono ?_; rintro e w' ⟨rfl, rfl⟩) | (go_at_call 14; refine (agree_nil _ _).mono ?_; rintro e w5 ⟨rfl, k5⟩; have KB := hide (hB.out.trans (k5.below (by simp) hB.out.size)); clear k5) | (go_at_call 14; refine (agree_nil _ _).mono ?_; rintro e w6 ⟨rfl, k6⟩; have KC := hide (KB.out.trans (k6.below (by simp) KB.out.size)); clear k6))
          go_roundw
          case rel => exact ⟨q + 1, rfl, rfl, by go_num, by have := HK.out; show q + 1 ≤ len1; omega, KC⟩
          case measure => have := HK.out; simp [intOf]; omega
        by_cases e1 : V1 q 0 = 1
        · rw [e1] at cD
          clear e0 e1
          have K0 : wr.drew.cell? ⟨bb, off + q * 2 + 1, none⟩ = some (.int .i64 x) := cI
          go_wp2_with fail
          go_region_held3 (fun w' => w'.cell? ⟨bb, off + q * 2 + 1, none⟩ = some (.int .i64 x)) (with_reducible assumption) (first | (go_at_call 18; refine (free_f _ _ _ (.inl rfl)).mono ?_; rintro e w' ⟨rfl, rfl⟩) | (go_at_call 19; refine (rfree_nil _ _).mono ?_; rintro e w' ⟨rfl, rfl⟩))
          have cI' : wr.drew.cell? ⟨bb, off + q * 2 + 1, none⟩ = some (.int .i64 x) := cI
          have hBd := hide (Below.drew hB.out)
          go_wp2_with (first | (go_at_call 14; refine (agree_nil _ _).mono ?_; rintro e w5 ⟨rfl, k5⟩; have KB := hide (hBd.out.trans (k5.below (by simp) hBd.out.size)); clear k5) | (go_at_call 14; refine (agree_nil _ _).mono ?_; rintro e w6 ⟨rfl, k6⟩; have KC := hide (KB.out.trans (k6.below (by simp) KB.out.size)); clear k6))
          go_roundw
          case rel => exact ⟨q + 1, rfl, rfl, by go_num, by have := HK.out; show q + 1 ≤ len1; omega, KC⟩
          case measure => have := HK.out; simp [intOf]; omega
        by_cases e2 : V1 q 0 = 2
        · rw [e2] at cD
          clear e0 e1 e2
          go_wp2_with (first | (go_at_call 20; refine (copy_nil _).mono ?_; rintro e w' ⟨rfl, rfl⟩) | (go_at_call 21; refine (rcopy_nil _).mono ?_; rintro e w' ⟨rfl, rfl⟩) | (go_at_call 14; refine (agree_nil _ _).mono ?_; rintro e w5 ⟨rfl, k5⟩; have KB := hide (hB.out.trans (k5.below (by simp) hB.out.size)); clear k5) | (go_at_call 14; refine (agree_nil _ _).mono ?_; rintro e w6 ⟨rfl, k6⟩; have KC := hide (KB.out.trans (k6.below (by simp) KB.out.size)); clear k6))
          go_roundw
          case rel => exact ⟨q + 1, rfl, rfl, by go_num, by have := HK.out; show q + 1 ≤ len1; omega, KC⟩
          case measure => have := HK.out; simp [intOf]; omega
        generalize V1 q 0 = dv at *
        have f0 : (dv == 0) = false := by simpa using e0
        have f1 : (dv == 1) = false := by simpa using e1
        have f2 : (dv == 2) = false := by simpa using e2
        clear e0 e1 e2
        go_wp2_with (first | (go_at_call 14; refine (agree_nil _ _).mono ?_; rintro e w5 ⟨rfl, k5⟩; have KB := hide (hB.out.trans (k5.below (by simp) hB.out.size)); clear k5) | (go_at_call 14; refine (agree_nil _ _).mono ?_; rintro e w6 ⟨rfl, k6⟩; have KC := hide (KB.out.trans (k6.below (by simp) KB.out.size)); clear k6))
        go_roundw
        case rel => exact ⟨q + 1, rfl, rfl, by go_num, by have := HK.out; show q + 1 ≤ len1; omega, KC⟩
        case measure => have := HK.out; simp [intOf]; omega
      · have dk : decide (q < len1) = false := by simp; omega
        clear hlt
        go_wp2_with (go_at_call 15; refine (works _).mono ?_; rintro e w5 ⟨rfl, b5⟩; have H5 := hide b5; clear b5)
        go_ret
        exact ⟨rfl, hB.out.trans (H5.out.mono hB.out.size)⟩
  · obtain ⟨n, rfl⟩ : ∃ n : Nat, a0 = (n : Int) := ⟨a0.toNat, by omega⟩
    have BN := hide (both_new n (by omega))
    clear hneg h500 b0 h200
    go_enter Try.func4, Try.ntmps4
    go_wp2_with (first | (go_at_call 12; refine (BN.out _).mono ?_; rintro e w1 ⟨b, rfl, h1⟩; have H1 := hide h1; clear h1) | (go_at_call 13; refine H1.out.mono ?_; rintro e w2 ⟨r, rfl, h2⟩; have H2 := hide h2; clear h2))
    clear H1 BN
    go_loopw [7, 9, 11] (fun pa pr k wr => ∃ (q b r : Nat) (A : Ar), pa = .pointer (some ⟨b, 0, none⟩) ∧ pr = .pointer (some ⟨r, 0, none⟩) ∧ k = .int .i64 (q : Int) ∧ Hid (q ≤ len1 ∧ A.bd q) ∧ Hid (Pr w wr b r A)) (fun _ _ k _ => len1 - (intOf k).toNat)
    case atStart => exact ⟨0, b, r, _, rfl, rfl, rfl, ⟨Nat.zero_le _, fun i hi => by simp at hi⟩, H2⟩
    case round =>
      obtain ⟨q, b', r', A, rfl, rfl, rfl, hq, hP⟩ := hrel
      by_cases hlt : q < len1
      · have dk : decide (q < len1) = true := by simpa using hlt
        have ww : IntKind.i64.wrap ((q : Int) + 1) = (q : Int) + 1 := by have := HL.out; rw [IntKind.wrap_i64]; omega
        obtain ⟨bb, off, hs, hbb, hD, hI⟩ := rowsI_two HR.out hlt
        have cD : wr.cell? ⟨bb, off + q * 2, none⟩ = some (.int .i64 (V1 q 0)) := by rw [hP.out.below.cell (p := ⟨bb, off + q * 2, none⟩) hbb]; exact hD
        have cell : ∀ wx, Below w.heap.size w wx → wx.cell? ⟨bb, off + q * 2 + 1, none⟩ = some (.int .i64 (V1 q 1)) := fun wx hx => by rw [hx.cell (p := ⟨bb, off + q * 2 + 1, none⟩) hbb]; exact hI
        have HK := hide hlt
        have OK := hide hP.out.ok
        have PS := hide hP.out.ps
        subst hs
        clear hD hI hbb
        generalize V1 q 1 = x at *
        have CE := hide cell
        have cI := cell _ hP.out.below
        clear cell
        by_cases e0 : V1 q 0 = 0
        · rw [e0] at cD
          obtain ⟨vx, vy, hv⟩ := allocV_pair A
          have AV := hide hv
          have NB := hide (hq.out.2.alloc (by have := HL.out; have := hq.out.1; omega))
          clear e0 hv
          go_wp2_with (first | (go_at_call 16; refine (x_alloc hP.out.x).mono ?_; rintro e w3 ⟨rfl, h3⟩; have X3 := hide h3; rw [AV.out]; clear h3) | (go_at_call 17; refine (x_ralloc X3.out OK.out PS.out).mono ?_; rintro e w4 ⟨rfl, h4⟩; have X4 := hide (h4.p NB.out.pos); have c4 := CE.out _ h4.below; rw [AV.out]; clear h4) | (go_at_call 14; refine (agree_t X4.out _).mono ?_; rintro e w5 ⟨rfl, k5⟩; have X5 := hide (X4.out.keep k5); clear k5) | (go_at_call 14; refine (agree_t X5.out _).mono ?_; rintro e w6 ⟨rfl, k6⟩; have X6 := hide (X5.out.keep k6); clear k6))
          go_roundw
          case rel => exact ⟨q + 1, b', r', A.alloc', rfl, rfl, by go_num, ⟨by have := HK.out; omega, NB.out⟩, X6⟩
          case measure => have := HK.out; simp [intOf]; omega
        by_cases e1 : V1 q 0 = 1
        · rw [e1] at cD
          have NB := hide ((hq.out.2.free x).le (Nat.le_succ q))
          have FV := hide (show A.freeE x = A.freeE x from rfl)
          obtain ⟨fv, hfv⟩ : ∃ fv, A.freeE x = fv := ⟨_, rfl⟩
          have HFV := hide hfv
          clear e0 e1 hfv FV
          have K0 : wr.drew.cell? ⟨bb, off + q * 2 + 1, none⟩ = some (.int .i64 x) := cI
          go_wp2_with fail
          go_region_held3 (fun w' => w'.cell? ⟨bb, off + q * 2 + 1, none⟩ = some (.int .i64 x)) (with_reducible assumption) (first | (go_at_call 18; refine (x_free hP.out.x.drew _).mono ?_; rintro e w3 ⟨rfl, h3⟩; have K1 : w3.cell? ⟨bb, off + q * 2 + 1, none⟩ = some (.int .i64 x) := CE.out _ h3.below; have X3 := hide h3; rw [HFV.out]; clear h3) | (go_at_call 19; refine (x_rfree X3.out OK.out _).mono ?_; rintro e w4 ⟨rfl, h4⟩; have K2 : w4.cell? ⟨bb, off + q * 2 + 1, none⟩ = some (.int .i64 x) := CE.out _ h4.below; have X4 := hide (h4.p NB.out.pos); rw [HFV.out]; clear h4))
          go_wp2_with (first | (go_at_call 14; refine (agree_t X4.out _).mono ?_; rintro e w5 ⟨rfl, k5⟩; have X5 := hide (X4.out.keep k5); clear k5) | (go_at_call 14; refine (agree_t X5.out _).mono ?_; rintro e w6 ⟨rfl, k6⟩; have X6 := hide (X5.out.keep k6); clear k6))
          go_roundw
          case rel => exact ⟨q + 1, b', r', A.free' x, rfl, rfl, by go_num, ⟨by have := HK.out; omega, NB.out⟩, X6⟩
          case measure => have := HK.out; simp [intOf]; omega
        by_cases e2 : V1 q 0 = 2
        · rw [e2] at cD
          have NB := hide (hq.out.2.le (Nat.le_succ q))
          clear e0 e1 e2
          go_wp2_with (first | (go_at_call 20; refine (x_copy hP.out.x).mono ?_; rintro e w3 ⟨d3, rfl, h3⟩; have X3 := hide h3; clear h3) | (go_at_call 21; refine (x_rcopy X3.out OK.out).mono ?_; rintro e w4 ⟨d4, rfl, h4⟩; have X4 := hide (h4.p NB.out.pos); have c4 := CE.out _ h4.below; clear h4) | (go_at_call 14; refine (agree_t X4.out _).mono ?_; rintro e w5 ⟨rfl, k5⟩; have X5 := hide (X4.out.keep k5); clear k5) | (go_at_call 14; refine (agree_t X5.out _).mono ?_; rintro e w6 ⟨rfl, k6⟩; have X6 := hide (X5.out.keep k6); clear k6))
          go_roundw
          case rel => exact ⟨q + 1, d3, d4, A, rfl, rfl, by go_num, ⟨by have := HK.out; omega, NB.out⟩, X6⟩
          case measure => have := HK.out; simp [intOf]; omega
        generalize V1 q 0 = dv at *
        have f0 : (dv == 0) = false := by simpa using e0
        have f1 : (dv == 1) = false := by simpa using e1
        have f2 : (dv == 2) = false := by simpa using e2
        have NB := hide (hq.out.2.le (Nat.le_succ q))
        clear e0 e1 e2
        go_wp2_with (first | (go_at_call 14; refine (agree_t hP.out _).mono ?_; rintro e w5 ⟨rfl, k5⟩; have X5 := hide (hP.out.keep k5); clear k5) | (go_at_call 14; refine (agree_t X5.out _).mono ?_; rintro e w6 ⟨rfl, k6⟩; have X6 := hide (X5.out.keep k6); clear k6))
        go_roundw
        case rel => exact ⟨q + 1, b', r', A, rfl, rfl, by go_num, ⟨by have := HK.out; omega, NB.out⟩, X6⟩
        case measure => have := HK.out; simp [intOf]; omega
      · have dk : decide (q < len1) = false := by simp; omega
        clear hlt
        go_wp2_with (go_at_call 15; refine (works _).mono ?_; rintro e w5 ⟨rfl, b5⟩; have H5 := hide b5; clear b5)
        go_ret
        exact ⟨rfl, hP.out.below.trans (H5.out.mono hP.out.below.size)⟩
theorem own : ownKnob Try.prog.godebug = none := by kernel_rfl
theorem laidOut : laidOutB Try.prog = true := by kernel_rfl
set_option maxRecDepth 100000 in
theorem lifted (os : Os) (started : os.Started) (H : Type) (enc : TypeId × Value → H) :
    ReturnsInHanded {} Try.checked os 4 .any (Rows.arenaPlaysSpec.pre6 enc Try.prog Try.f4 Rows.arenaPlaysRow.domain false) (Rows.arenaPlaysSpec.post enc Try.prog Try.f4 false true false false) := by
  refine returnsInHanded_of_change (C := Try.checked) own started (by kernel_rfl) Try.func4
    (ChangeSpec.witness6 (enc := enc) (C := Try.checked) false ⟨#[], #[.int .i64 0, .slice none 0 0, .int .i64 0], []⟩ 8 (by kernel_rfl) (by kernel_rfl) (by kernel_rfl) (by kernel_rfl)) ?_
  intro W base args ds gs before hval0 hW hcnd _
  have hval : ∀ (j : Nat) t v, Try.f4.params[j]? = some t → args[j]? = some v → Value.okWide Try.prog W .any base t v := hval0
  have hW' := hW
  obtain ⟨p, q, hA0, hV, rfl, hfz, hnd⟩ := hW
  have hA : DataW.TrodAll enc Try.prog W 0 (fun _ => true) true Try.f4.params.toList args.toList ds p := hA0
  rw [Try.params4] at hA hval
  obtain ⟨v0, vs0, d0, ds0, p0, q0, hargs, rfl, rfl, h0, r0⟩ := trodAll_cons hA
  obtain ⟨v1, vs1, d1, ds1, p1, q1, rfl, rfl, rfl, h1, r1⟩ := trodAll_cons r0
  obtain ⟨v2, vs2, d2, ds2, p2, q2, rfl, rfl, rfl, h2, r2⟩ := trodAll_cons r1
  obtain ⟨rfl, rfl, rfl⟩ := trodAll_nil r2
  obtain rfl : args = #[v0, v1, v2] := by cases args; simp_all
  obtain ⟨rfl, rfl⟩ := trodVars_none hV
  have k0 := h0
  have lt0 : ∀ x ∈ p0, x.block < W.heap.size := by obtain ⟨m, hm⟩ := k0; exact DataW.trod_lt m _ _ _ hm
  have k1 := h1
  have lt1 : ∀ x ∈ p1, x.block < W.heap.size := by obtain ⟨m, hm⟩ := k1; exact DataW.trod_lt m _ _ _ hm
  have k2 := h2
  have lt2 : ∀ x ∈ p2, x.block < W.heap.size := by obtain ⟨m, hm⟩ := k2; exact DataW.trod_lt m _ _ _ hm
  obtain ⟨a0, rfl, _, _, w0⟩ := open_int Try.underlying3 (hval 0 3 v0 rfl rfl) h0
  obtain ⟨s1, len1, cap1, rfl⟩ := okWide_slice Try.underlying32 (hval 1 32 v1 rfl rfl)
  obtain ⟨V1, hc1, hr1⟩ := rows_in Try.underlying32 (flat_struct (ks := [.i64, .i64]) Try.underlying34 (by kernel_rfl) (by kernel_rfl)) (by decide) h1
  obtain ⟨a2, rfl, _, _, w2⟩ := open_int Try.underlying3 (hval 2 3 v2 rfl rfl) h2
  clear hA0 hval0
  refine (walk a0 s1 len1 cap1 V1 a2 W (bounds_i64 w0) hc1 hr1 (bounds_i64 w2)).mono fun e W' ⟨he, bel⟩ => ?_
  subst he
  exact ⟨_, rfl, _, _, _, [], _, [], hW', trodAll_mk1 (shut_bool Try.underlying4 _), (trodAll_cons_mk (Below.trod laidOut (by kernel_rfl) (of_decide_eq_true (by kernel_rfl)) k0 bel lt0) (trodAll_cons_mk (Below.trod laidOut (by kernel_rfl) (of_decide_eq_true (by kernel_rfl)) k1 bel lt1) (trodAll_cons_mk (Below.trod laidOut (by kernel_rfl) (of_decide_eq_true (by kernel_rfl)) k2 bel lt2) trodAll_mk0))), rfl, bel.frame _, fun h => by cases h⟩
theorem holds : Rows.arenaPlaysRow.holds Try.pinned (OpenSpec.ofChange Rows.arenaPlaysSpec) :=
  OpenClaim.holds_of_wide 4 Try.f4 rfl rfl rfl rfl rfl rfl rfl ⟨rfl, rfl, rfl, rfl, rfl⟩ rfl rfl rfl rfl rfl (by kernel_rfl) Try.func4 (by kernel_rfl)
    (of_decide_eq_true (by kernel_rfl)) (by unfold Func.isWrapper; first | (rw [if_pos (by decide +kernel)]; kernel_rfl) | (rw [if_neg (by decide +kernel)]; exact ⟨rfl, rfl⟩))
    (fun os started H enc _ => lifted os started H enc)
theorem proved : Rows.ArenaPlaysSaid := holds
end lawPlays
end Go.Proofs.Ytflblojmjdlhiaa
