/- The specification's tree, walked. -/
import Derived.Test.YthgeccmphnppgaaV
set_option linter.unusedVariables false
set_option linter.unusedSimpArgs false
namespace Go.Proofs.Ythgeccmphnppgaa
open Go.RowKit

theorem mk48 (w : World) : (Instr.buildSlice 48 1 #[(0, .int .i64 0)]).run Try.prog w = .ok (.slice (some ⟨w.heap.size, 0, none⟩) 1 1) (w.alloc (.cells #[.int .i64 0] 3)) := by kernel_rfl
set_option maxRecDepth 100000 in
set_option maxHeartbeats 2000000 in
theorem stree_bad (c d : Int) (h : c < 1 ∨ d < 0 ∨ 4096 ≤ d ∨ (0 < d ∧ 4096 < c)) (W : World) : Calls Try.prog 21 #[.int .i64 c, .int .i64 d] W (GRes (0, 2, []) W) := by
  by_cases h1 : c < 1
  · clear h
    go_enter Try.func21, Try.ntmps21
    go_wp2_with fail
    go_ret3
    exact ⟨_, rfl, RdE.nil _, Below.refl _ _⟩
  by_cases h2 : d < 0
  · clear h
    go_enter Try.func21, Try.ntmps21
    go_wp2_with fail
    go_ret3
    exact ⟨_, rfl, RdE.nil _, Below.refl _ _⟩
  by_cases h3 : 4096 ≤ d
  · clear h
    go_enter Try.func21, Try.ntmps21
    go_wp2_with fail
    go_ret3
    exact ⟨_, rfl, RdE.nil _, Below.refl _ _⟩
  · have h4 : 0 < d := by omega
    have h5 : 4096 < c := by omega
    clear h
    go_enter Try.func21, Try.ntmps21
    go_wp2_with fail
    go_ret3
    exact ⟨_, rfl, RdE.nil _, Below.refl _ _⟩
set_option maxRecDepth 100000 in
set_option maxHeartbeats 16000000 in
theorem stree_ok (a b : Nat) (ha : 1 ≤ a) (hb : b < 4096) (hab : b = 0 ∨ a ≤ 4096) (ha2 : (a : Int) ≤ 9223372036854775807) (W : World) : Calls Try.prog 21 #[.int .i64 (a : Int), .int .i64 (b : Int)] W (GRes (treeO a (tr a b)) W) := by
  have d1 : decide ((a : Int) < 1) = false := by simp; omega
  have d2 : decide ((b : Int) < 0) = false := by simp
  have d3 : decide ((4096 : Int) ≤ (b : Int)) = false := by simp; omega
  have d4 : (decide ((0 : Int) < (b : Int)) && decide ((4096 : Int) < (a : Int))) = false := by
    rcases hab with h | h
    · simp; omega
    · simp; omega
  have HA := hide ha
  have HAB := hide hab
  have HB := hide hb
  have bd50 := build50
  have mk := mk48 W
  have S0 : Hid (TS W (W.alloc (.cells #[.int .i64 0] 3)) (.slice none 0 0) (.slice (some ⟨W.heap.size, 0, none⟩) 1 1) (.slice none 0 0) (tE a 1) (rg 0 1) []) := by
    refine ⟨World.ownsRow_nil _ _ _ _, ⟨rfl, .inr ⟨W.heap.size, 1, #[.int .i64 0], rfl, Nat.le_refl _, heap_alloc_new _ _, Nat.le_refl _, by unfold maxLen; omega, rfl, rfl⟩⟩, World.ownsRow_nil _ _ _ _, ?_, ?_, .of_below ((Below.refl _ _).alloc (Nat.le_refl _) _)⟩
    · intro k hk; cases hk
    · intro k hk; simp [Value.ownBlock]
  obtain ⟨i0, hi, hz0, hz1, hz2⟩ := info_parts info50
  have HI := hide (And.intro hi (And.intro hz0 (And.intro hz1 hz2)))
  obtain ⟨j0, ji, jz0, jz1, jz2⟩ := info_parts info3
  have HJ := hide (And.intro ji (And.intro jz0 (And.intro jz1 jz2)))
  clear hi hz0 hz1 hz2 ji jz0 jz1 jz2 hab
  by_cases hb0 : b = 0
  · subst hb0
    have dz : decide ((0 : Int) < ((0 : Nat) : Int)) = false := by simp
    have HT : Hid (treeO a (tr a 0) = (1, 0, tE a 1)) := rfl
    clear d4
    go_enter Try.func21, Try.ntmps21
    go_wp2_with fail
    go_loopw [7, 8, 10] (fun x v z wr => x = .int .i64 1 ∧ v = .slice none 0 0 ∧ z = .int .i64 0 ∧ Hid (Below W.heap.size W wr)) (fun _ _ _ _ => 0)
    case atStart => exact ⟨rfl, rfl, rfl, (Below.refl _ _).alloc (Nat.le_refl _) _⟩
    case round =>
      obtain ⟨rfl, rfl, rfl, hW⟩ := hrel
      go_wp2_with fail
      go_ret3
      rw [HT.out]
      exact ⟨_, rfl, RdE.nil _, hW.out⟩
  · have dz : decide ((0 : Int) < (b : Int)) = true := by simp; omega
    have dy : decide ((4096 : Int) < (a : Int)) = false := by have := HAB.out; simp; omega
    have han : (a : Int) ≤ 4096 := by have := HAB.out; omega
    clear d4
    go_enter Try.func21, Try.ntmps21
    go_wp2_with fail
    clear mk
    go_loopw [7, 8, 9, 10] (fun x v8 v9 z wr => ∃ d n t s : Nat, d ≤ b ∧ x = .int .i64 (n : Int) ∧ (∃ p c, v9 = .slice p t c) ∧ z = .int .i64 (d : Int) ∧ Hid (tr a d = some (n, t) ∧ s + t = n ∧ n = s * a + 1) ∧ Hid (TS W wr v8 v9 (.slice none 0 0) (tE a n) (rg s t) [])) (fun _ _ _ z _ => b - (intOf z).toNat)
    case atStart => exact ⟨0, 1, 1, 0, by omega, rfl, ⟨_, _, rfl⟩, rfl, ⟨rfl, rfl, by omega⟩, S0⟩
    case round =>
      obtain ⟨d, n, t, s, hd, rfl, ⟨p9, c9, rfl⟩, rfl, hT, hS⟩ := hrel
      obtain ⟨t1, t2, t3, t4⟩ := tr_ok HA.out hT.out.1
      have hw0 := hide (rfl : W.heap.size = W.heap.size)
      by_cases hdb : d < b
      · have dk : decide (d < b) = true := by simp; omega
        have dki : decide ((d : Int) < (b : Int)) = true := by simp; omega
        have wd : IntKind.i64.wrap ((d : Int) + 1) = ((d + 1 : Nat) : Int) := by have := HB.out; rw [IntKind.wrap_i64]; omega
        have mb0 := Nat.mul_le_mul (show t ≤ 4096 by omega) (show a ≤ 4096 by omega)
        have mb : 0 ≤ (t : Int) * (a : Int) ∧ (t : Int) * (a : Int) ≤ 16777216 := by rw [← Int.natCast_mul]; omega
        have nb : (n : Int) ≤ 4096 := by omega
        by_cases hover : 4096 < n + t * a
        · have dq : decide ((4096 : Int) < (n : Int) + (t : Int) * (a : Int)) = true := by rw [← Int.natCast_mul, ← Int.natCast_add]; simp; omega
          have HN := hide (show treeO a (tr a b) = (0, 2, []) by
            have e1 : tr a (d + 1) = none := by unfold tr; rw [hT.out.1]; simp [hover]
            have e2 := tr_none e1 (b - (d + 1))
            rw [show d + 1 + (b - (d + 1)) = b by omega] at e2
            rw [e2]; rfl)
          have HK := hide (hS.out.kp.below (by simp) (Nat.le_refl _))
          clear hT hS hover mb0
          go_wp2_with fail
          go_ret3
          rw [HN.out]
          exact ⟨_, rfl, RdE.nil _, HK.out⟩
        · have dq : decide ((4096 : Int) < (n : Int) + (t : Int) * (a : Int)) = false := by rw [← Int.natCast_mul, ← Int.natCast_add]; simp; omega
          have HOV := hide (show n + t * a ≤ 4096 by omega)
          have HN := hide (show tr a (d + 1) = some (n + t * a, t * a) by unfold tr; rw [hT.out.1]; simp [hover])
          have HT2 := hide hT.out.2
          have HT1 := hide (And.intro t1 (And.intro t2 t3))
          obtain ⟨wo, hwo⟩ : ∃ wo : World, wo = wr := ⟨_, rfl⟩
          rw [← hwo] at hS ⊢
          clear hwo hover mb0 hT t1 t2 t3 t4
          go_wp2_with fail
          clear mb dq
          go_loopw [7, 8, 11, 12] (fun x v8 v11 z wr => ∃ i : Nat, i ≤ t ∧ x = .int .i64 ((n + i * a : Nat) : Int) ∧ z = .int .i64 (i : Int) ∧ Hid (TS W wr v8 (.slice p9 t c9) v11 (tE a (n + i * a)) (rg s t) (rg n (i * a)))) (fun _ _ _ z _ => t - (intOf z).toNat)
          case atStart => exact ⟨0, by omega, by simp, rfl, by simpa [rg] using hS⟩
          case round =>
            obtain ⟨i, hi, rfl, rfl, hS⟩ := hrel
            have tb := HT1.out.2.2
            by_cases hit : i < t
            · have dj : decide (i < t) = true := by simp; omega
              have dji : decide ((i : Int) < (t : Int)) = true := by simp; omega
              have wi : IntKind.i64.wrap ((i : Int) + 1) = ((i + 1 : Nat) : Int) := by rw [IntKind.wrap_i64]; omega
              have hia : i * a + a ≤ t * a := by have := Nat.mul_le_mul_right a (show i + 1 ≤ t by omega); rw [Nat.add_mul, Nat.one_mul] at this; exact this
              have HIA := hide hia
              obtain ⟨m, hm⟩ : ∃ m, m = n + i * a := ⟨_, rfl⟩
              have hS2 := hide (show TS W wr u8 (.slice p9 t c9) u11 (tE a (m + 0)) (rg s t) (rg n (i * a + 0)) by rw [hm]; exact hS.out)
              have HMM := hide hm
              rw [← hm]
              obtain ⟨wp, hwp⟩ : ∃ wp : World, wp = wr := ⟨_, rfl⟩
              rw [← hwp] at hS2 ⊢
              clear hwp hm hia hS
              go_wp2_with fail
              go_loopw [7, 8, 11, 13] (fun x v8 v11 z wr => ∃ k : Nat, k ≤ a ∧ x = .int .i64 ((m + k : Nat) : Int) ∧ z = .int .i64 (k : Int) ∧ Hid (TS W wr v8 (.slice p9 t c9) v11 (tE a (m + k)) (rg s t) (rg n (i * a + k)))) (fun _ _ _ z _ => a - (intOf z).toNat)
              case atStart => exact ⟨0, by omega, by simp, rfl, hS2⟩
              case round =>
                obtain ⟨k, hk, rfl, rfl, hS⟩ := hrel
                by_cases hka : k < a
                · have dl : decide (k < a) = true := by simp; omega
                  have dli : decide ((k : Int) < (a : Int)) = true := by simp; omega
                  have wk : IntKind.i64.wrap ((k : Int) + 1) = ((k + 1 : Nat) : Int) := by rw [IntKind.wrap_i64]; omega
                  have hmb : m + k + 1 ≤ 4096 := by have := HMM.out; have := HIA.out; have := HOV.out; omega
                  have wm : IntKind.i64.wrap (((m + k : Nat) : Int) + 1) = ((m + (k + 1) : Nat) : Int) := by rw [IntKind.wrap_i64]; omega
                  obtain ⟨g9, rfl, e9, -, -⟩ := row_cell (show wr.ownsRow W.heap.size 3 1 (.slice p9 t c9) t (ints (rg s t)) by have := hS.out.lev; rw [rg_len] at this; exact this) hit
                  rw [rg_at hit] at e9
                  have TN := hide (show tE a (m + (k + 1)) = tE a (m + k) ++ [(((s + i : Nat) : Int), ((m + k : Nat) : Int), 0)] from tE_next (a := a) (v := m + k) (q := s + i) (by have h1 := HMM.out; have h2 := HT1.out; omega) (by rw [HMM.out]; exact par hka HT2.out.2))
                  have RN := hide (show rg n (i * a + (k + 1)) = rg n (i * a + k) ++ [m + k] by rw [← Nat.add_assoc, rg_succ, HMM.out, Nat.add_assoc])
                  have L1 := hide (show (tE a (m + k)).length ≤ 4096 by have := tE_len a (m + k); omega)
                  have L2 := hide (show (rg n (i * a + k)).length ≤ 4096 by rw [rg_len]; have := HMM.out; omega)
                  obtain ⟨y, hy⟩ : ∃ y, y = m + k := ⟨_, rfl⟩
                  obtain ⟨q, hq⟩ : ∃ q, q = s + i := ⟨_, rfl⟩
                  rw [← hy, ← hq] at TN
                  rw [← hy] at RN wm L1 hS ⊢
                  rw [← hq] at e9
                  have HY := hide hy
                  clear hy hq hmb
                  have SN := hide (src_new wr wr.heap.size rfl (ec ((q : Int), (y : Int), 0)) 50)
                  go_wp2_with (first
                    | (at_builtin; refine wpList_append_new _ rfl _ _ 22 rfl W.heap.size 50 i0 (.agg #[.int .i64 0, .int .i64 0, .int .i64 0]) 3 24 Try.underlying22 HI.out.1 HI.out.2.1 HI.out.2.2.1 HI.out.2.2.2 rfl (by decide) u8 (tE a y).length (ecs (tE a y)) rfl (hS.out.es.alloc _) ⟨wr.heap.size, 0, none⟩ 1 1 (ec ((q : Int), (y : Int), 0)) rfl rfl SN.out (ec_one _) (by have := L1.out; unfold maxLen; omega) (by have := L1.out; omega) (by have := hS.out.kp.size; simp; omega) ?_; intro v' w1 r1 g1 o1; have S1 := hide (hS.out.edge r1 g1 o1); have SM := hide (src_new w1 w1.heap.size rfl [.int .i64 (y : Int)] 3); clear r1 g1 o1)
                    | (at_builtin; refine wpList_append_new _ rfl _ _ 48 rfl W.heap.size 3 j0 (.int .i64 0) 1 8 Try.underlying48 HJ.out.1 HJ.out.2.1 HJ.out.2.2.1 HJ.out.2.2.2 rfl (by decide) u11 (rg n (i * a + k)).length (ints (rg n (i * a + k))) rfl (S1.out.bel.alloc _) ⟨w1.heap.size, 0, none⟩ 1 1 [.int .i64 (y : Int)] rfl rfl SM.out (by intro u hu; simp at hu; subst hu; rfl) (by have := L2.out; unfold maxLen; omega) (by have := L2.out; omega) (by have := S1.out.kp.size; simp; omega) ?_; intro v2 w2 r2 g2 o2; have S2 := hide (S1.out.num r2 g2 o2); clear r2 g2 o2))
                  go_roundw
                  case rel => exact ⟨k + 1, by omega, rfl, rfl, by rw [TN.out, RN.out]; exact S2⟩
                  case measure => simp [intOf]; omega
                · have : k = a := by omega
                  subst this
                  have dl : decide (k < k) = false := by simp
                  have dli : decide ((k : Int) < (k : Int)) = false := by simp
                  have e1 : m + k = n + (i + 1) * k := by rw [HMM.out, Nat.add_mul]; omega
                  have e2 : i * k + k = (i + 1) * k := by rw [Nat.add_mul]; omega
                  have NS := hide (show TS W wr u8 (.slice p9 t c9) u11 (tE k (n + (i + 1) * k)) (rg s t) (rg n ((i + 1) * k)) by rw [← e1, ← e2]; exact hS.out)
                  rw [e1]
                  clear e1 e2
                  go_wp2_with fail
                  go_roundw
                  case rel => exact ⟨i + 1, by omega, rfl, rfl, NS⟩
                  case measure => simp [intOf]; omega
            · have : i = t := by omega
              subst this
              have dj : decide (i < i) = false := by simp
              have dji : decide ((i : Int) < (i : Int)) = false := by simp
              obtain ⟨p11, c11, h11⟩ := row_slice hS.out.bel
              rw [rg_len] at h11
              subst h11
              have NS := hide hS.out.down
              have NT := hide (show tr a (d + 1) = some (n + i * a, i * a) ∧ n + i * a = n + i * a ∧ n + i * a = n * a + 1 from ⟨HN.out, rfl, by
                have h := HT2.out
                have e : (s + i) * a = n * a := by rw [h.1]
                rw [Nat.add_mul] at e
                omega⟩)
              go_wp2_with fail
              go_roundw
              case rel => exact ⟨d + 1, n + i * a, i * a, n, by omega, rfl, ⟨_, _, rfl⟩, rfl, NT.out, NS⟩
              case measure => simp [intOf]; omega
      · have : d = b := by omega
        subst this
        have dk : decide (d < d) = false := by simp
        have dki : decide ((d : Int) < (d : Int)) = false := by simp
        have HT := hide (show treeO a (tr a d) = ((n : Int), 0, tE a n) by rw [hT.out.1]; rfl)
        clear hT t1 t2 t3 t4
        go_wp2_with fail
        go_ret3
        rw [HT.out]
        exact ⟨_, rfl, RdE.of_row hS.out.es, hS.out.kp.below (by simp) (Nat.le_refl _)⟩
theorem tree_21 (c d : Int) (hc : I64 c) (hd : I64 d) (W : World) : Calls Try.prog 21 #[.int .i64 c, .int .i64 d] W (GRes (treeR c d) W) := by
  by_cases h : c < 1 ∨ d < 0 ∨ 4096 ≤ d ∨ (0 < d ∧ 4096 < c)
  · have e : treeR c d = (0, 2, []) := by
      unfold treeR
      by_cases h1 : c < 1 ∨ d < 0
      · rw [if_pos h1]
      · rw [if_neg h1]
        have hc1 : 1 ≤ c.toNat := by omega
        by_cases h2 : 4096 ≤ d
        · rw [tr_deep hc1 (by omega)]; rfl
        · have h3 : 0 < d ∧ 4096 < c := by omega
          have e1 : tr c.toNat 1 = none := by
            unfold tr
            simp only [tr]
            rw [if_pos (by omega)]
          have e2 := tr_none e1 (d.toNat - 1)
          rw [show 1 + (d.toNat - 1) = d.toNat by omega] at e2
          rw [e2]; rfl
    rw [e]
    exact stree_bad c d h W
  · obtain ⟨a, rfl⟩ : ∃ a : Nat, c = (a : Int) := ⟨c.toNat, by omega⟩
    obtain ⟨b, rfl⟩ : ∃ b : Nat, d = (b : Int) := ⟨d.toNat, by omega⟩
    have e : treeR (a : Int) (b : Int) = treeO a (tr a b) := by unfold treeR; rw [if_neg (by omega)]; simp
    rw [e]
    exact stree_ok a b (by omega) (by omega) (by omega) (by unfold I64 at hc; omega) W
end Go.Proofs.Ythgeccmphnppgaa
