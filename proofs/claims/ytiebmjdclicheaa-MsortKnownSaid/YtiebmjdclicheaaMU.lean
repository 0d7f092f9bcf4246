/- Inversions and Sorted: both sides; the program's Merge. -/
import Derived.Test.YtiebmjdclicheaaMT
set_option linter.unusedVariables false
set_option linter.unusedSimpArgs false
namespace Go.Proofs.Ytiebmjdclicheaa
open Go.RowKit

def invA (k : Int) (l : List R4) : Nat := if chk l.length k = 0 then inv (bef k) l else 0
theorem invA_ok {k : Int} {l : List R4} (h : chk l.length k = 0) : invA k l = inv (bef k) l := by unfold invA; rw [if_pos h]
theorem invA_no {k : Int} {l : List R4} (h : chk l.length k ≠ 0) : invA k l = 0 := by unfold invA; rw [if_neg h]
set_option maxRecDepth 100000 in
set_option maxHeartbeats 4000000 in
theorem invP_t {w : World} {p : Option Addr} {c : Nat} {l : List R4} {k : Int} (hc : l.length ≤ c ∧ c ≤ maxLen) (hr : RdR w p l) :
    Calls Try.prog 25 #[.slice p l.length c, .int .i64 k] w fun e w' => e = .returned (.tuple #[.int .i64 (invA k l : Int), .int .i64 (chk l.length k)]) ∧ Kp [] w w' := by
  by_cases h0 : chk l.length k = 0
  · obtain ⟨hk, hn⟩ := chk_zero h0
    rw [invA_ok h0, h0, ← srt_inv2 (bef_weak k) l.length l (Nat.le_refl _)]
    exact inv_t hk hn hc hr
  · have CH := hide (check_t l.length k w)
    rw [invA_no h0]
    have d := neq0 h0
    generalize chk l.length k = z at *
    generalize l.length = n at *
    clear hc hr h0
    go_enter Try.func25, Try.ntmps25
    go_wp2_with fail
    refine CH.out.mono ?_
    rintro e w' ⟨rfl, rfl⟩
    go_wp2_with fail
    go_ret2
    exact ⟨rfl, Kp.refl _ _⟩
theorem take_next {α : Type} {l : List α} {i : Nat} {x : α} (h : l[i]? = some x) : l.take (i + 1) = l.take i ++ [x] := by
  obtain ⟨hi, rfl⟩ := List.getElem?_eq_some_iff.1 h
  exact List.take_succ_eq_append_getElem hi
set_option maxRecDepth 100000 in
set_option maxHeartbeats 16000000 in
theorem invR_t {w : World} {p : Option Addr} {c : Nat} {l : List R4} {k : Int} (hr : RdR w p l) :
    Calls Try.prog 26 #[.slice p l.length c, .int .i64 k] w fun e w' => e = .returned (.tuple #[.int .i64 (invA k l : Int), .int .i64 (chk l.length k)]) ∧ Kp [] w w' := by
  have CH := hide (rcheck_t l.length k w)
  by_cases h0 : chk l.length k = 0
  · have HN := hide (chk_zero h0).2
    have HR := hide hr
    rw [invA_ok h0, h0]
    rw [h0] at CH
    obtain ⟨n, hnn⟩ : ∃ n, n = l.length := ⟨_, rfl⟩
    have HNN := hide hnn
    have CQ := hide (fun a b => before_t a b k)
    rw [← hnn] at CH ⊢
    clear hr hnn h0
    go_enter Try.func26, Try.ntmps26
    go_wp2_with fail
    refine CH.out.mono ?_
    rintro e w1 ⟨rfl, rfl⟩
    go_wp2_with fail
    go_loopw [7, 8] (fun z j wr => ∃ (J N : Nat), J ≤ n ∧ j = .int .i64 (J : Int) ∧ z = .int .i64 (N : Int) ∧ Hid (N = inv (bef k) (l.take J)) ∧ Hid (N ≤ J * 65536) ∧ Hid (Kp [] w wr)) (fun _ j _ => n - (intOf j).toNat)
    case atStart => exact ⟨0, 0, Nat.zero_le _, rfl, rfl, rfl, Nat.zero_le _, Kp.refl _ _⟩
    case round =>
      obtain ⟨J, N, hJ, rfl, rfl, hN, hB, hK⟩ := hrel
      by_cases hlt : J < n
      · have dk : decide ((J : Int) < (n : Int)) = true := by simpa using hlt
        have dk' : decide (J < n) = true := by simpa using hlt
        have wJ : IntKind.i64.wrap ((J : Int) + 1) = (J : Int) + 1 := by have := HN.out; have := HNN.out; rw [IntKind.wrap_i64]; omega
        have HLT := hide hlt
        have lJ : J < l.length := by rw [← HNN.out]; exact hlt
        have HGJ := hide (show l[J]? = some (l.getD J zz) by simp [List.getD, lJ])
        obtain ⟨wo, hwo⟩ : ∃ wo : World, wo = wr := ⟨_, rfl⟩
        rw [← hwo] at hK ⊢
        have bJ : (J : Int) < (n : Int) := by omega
        clear hwo hlt
        go_wp2_with fail
        go_loopw [7, 9] (fun z i wr => ∃ (I M : Nat), I ≤ J ∧ i = .int .i64 (I : Int) ∧ z = .int .i64 (M : Int) ∧ Hid (M = N + (l.take I).countP (bef k (l.getD J zz))) ∧ Hid (M ≤ N + I) ∧ Hid (Kp [] w wr)) (fun _ i _ => J - (intOf i).toNat)
        case atStart => exact ⟨0, N, Nat.zero_le _, rfl, rfl, rfl, Nat.le_refl _, hK.out⟩
        case round =>
          obtain ⟨I, M, hI, rfl, rfl, hM, hBM, hK2⟩ := hrel
          have BB := hide (show M ≤ 65536 * 65536 + 65536 by
            have := hB.out; have := hBM.out; have := HN.out; have := HNN.out; have := HLT.out
            have : J * 65536 ≤ 65536 * 65536 := Nat.mul_le_mul_right _ (by omega)
            omega)
          by_cases hli : I < J
          · have ek : decide ((I : Int) < (J : Int)) = true := by simpa using hli
            have ek' : decide (I < J) = true := by simpa using hli
            have wI : IntKind.i64.wrap ((I : Int) + 1) = (I : Int) + 1 := by have := HN.out; have := HNN.out; have := HLT.out; rw [IntKind.wrap_i64]; omega
            have wM : IntKind.i64.wrap ((M : Int) + 1) = (M : Int) + 1 := by have := BB.out; rw [IntKind.wrap_i64]; omega
            have bI : (I : Int) < (n : Int) := by omega
            have lI : I < n := by have := HLT.out; omega
            have lJn : J < n := HLT.out
            have HGI := hide (show l[I]? = some (l.getD I zz) by simp [List.getD, show I < l.length by omega])
            obtain ⟨b, off, rfl, hb, hat⟩ := rdr_get (HR.out.below hK2.out) lJ
            have aJ := hat J lJ
            have aI := hat I (by omega)
            obtain ⟨x, hx⟩ : ∃ x, x = l.getD J zz := ⟨_, rfl⟩
            obtain ⟨y, hy⟩ : ∃ y, y = l.getD I zz := ⟨_, rfl⟩
            have HX := hide hx
            have HY := hide hy
            rw [← hx] at aJ
            rw [← hy] at aI
            obtain ⟨w2, hw2⟩ : ∃ w2 : World, w2 = wr.drew := ⟨_, rfl⟩
            have k0 : Kp [] wr w2 := by rw [hw2]; exact Kp.drewN [] wr 1
            have hw2' : ({ wr with drawn := wr.drawn + 1 } : World) = w2 := hw2.symm
            obtain ⟨a1, a2, a3, a4⟩ : At4 w2 b (off + J * 4) x := by rw [hw2]; exact aJ
            obtain ⟨b1, b2, b3, b4⟩ : At4 w2 b (off + I * 4) y := by rw [hw2]; exact aI
            have K0 := hide (hK2.out.trans0 k0)
            have CC := hide (fun W => CQ.out x y W)
            unfold R4.val at CC
            have HLI := hide hli
            clear aI aJ hx hy hw2 k0 hat hb hli
            by_cases hbf : bef k x y = true
            · have F := hide (show (l.take (I + 1)).countP (bef k (l.getD J zz)) = (l.take I).countP (bef k (l.getD J zz)) + 1 by rw [← HX.out, take_next HGI.out, ← HY.out, List.countP_append, List.countP_cons, hbf]; simp)
              rw [hbf] at CC
              clear hbf
              go_wp2_with fail
              refine wp_region_still_tail 9 (by kernel_rfl) (by kernel_rfl) ?_
              simp only [List.take_succ_cons, List.take_zero, List.drop_succ_cons, List.drop_zero]
              rw [hw2']
              clear hw2'
              repeat still_step
              refine wpStill_nil ?_
              go_wp2_with fail
              refine (CC.out _).mono ?_
              rintro e w3 ⟨rfl, k1⟩
              have K1 := hide (K0.out.trans0 k1)
              clear k1 a1 a2 a3 a4 b1 b2 b3 b4
              go_wp2_with fail
              go_roundw
              case rel => exact ⟨I + 1, M + 1, by have := HLI.out; omega, by go_num, by go_num, by rw [F.out, hM.out]; exact Nat.add_assoc _ _ _, by have := hBM.out; show M + 1 ≤ N + (I + 1); omega, K1.out⟩
              case measure => have := HLI.out; simp [intOf]; omega
            · have hbf' : bef k x y = false := by simpa using hbf
              have F := hide (show (l.take (I + 1)).countP (bef k (l.getD J zz)) = (l.take I).countP (bef k (l.getD J zz)) by rw [← HX.out, take_next HGI.out, ← HY.out, List.countP_append, List.countP_cons, hbf']; simp)
              rw [hbf'] at CC
              clear hbf'
              clear hbf
              go_wp2_with fail
              refine wp_region_still_tail 9 (by kernel_rfl) (by kernel_rfl) ?_
              simp only [List.take_succ_cons, List.take_zero, List.drop_succ_cons, List.drop_zero]
              rw [hw2']
              clear hw2'
              repeat still_step
              refine wpStill_nil ?_
              go_wp2_with fail
              refine (CC.out _).mono ?_
              rintro e w3 ⟨rfl, k1⟩
              have K1 := hide (K0.out.trans0 k1)
              clear k1 a1 a2 a3 a4 b1 b2 b3 b4
              go_wp2_with fail
              go_roundw
              case rel => exact ⟨I + 1, M, by have := HLI.out; omega, by go_num, rfl, by rw [F.out]; exact hM.out, by have := hBM.out; show M ≤ N + (I + 1); omega, K1.out⟩
              case measure => have := HLI.out; simp [intOf]; omega
          · have hIJ : I = J := by omega
            subst hIJ
            have ek : decide ((I : Int) < (I : Int)) = false := by simp
            have ek' : decide (I < I) = false := by simp
            clear hli
            go_wp2_with fail
            go_roundw
            case rel => exact ⟨I + 1, M, by have := HLT.out; omega, by go_num, rfl, by rw [take_next HGJ.out, inv_snoc, ← hN.out]; exact hM.out, by have := hBM.out; have := hB.out; have := HN.out; have := HNN.out; have := HLT.out; show M ≤ (I + 1) * 65536; omega, hK2.out⟩
            case measure => have := HLT.out; simp [intOf]; omega
      · have hJn : J = n := by omega
        have dk : decide ((J : Int) < (n : Int)) = false := by simp; omega
        have dk' : decide (J < n) = false := by simp; omega
        have F := hide (show N = inv (bef k) l by rw [hN.out, hJn, HNN.out, List.take_length])
        clear hJn hlt
        go_wp2_with fail
        go_ret2
        exact ⟨by rw [F.out] <;> rfl, hK.out⟩
  · rw [invA_no h0]
    have d := neq0 h0
    generalize chk l.length k = z at *
    generalize l.length = n at *
    clear hr h0
    go_enter Try.func26, Try.ntmps26
    go_wp2_with fail
    refine CH.out.mono ?_
    rintro e w' ⟨rfl, rfl⟩
    go_wp2_with fail
    go_ret2
    exact ⟨rfl, Kp.refl _ _⟩
set_option maxRecDepth 100000 in
set_option maxHeartbeats 4000000 in
theorem sortedR_t {w : World} {p : Option Addr} {c : Nat} {l : List R4} {k : Int} (hr : RdR w p l) :
    Calls Try.prog 24 #[.slice p l.length c, .int .i64 k] w fun e w' => e = .returned (.tuple #[.bool (sorE k l), .int .i64 (chk l.length k)]) ∧ Kp [] w w' := by
  have IV := hide (invR_t (c := c) (k := k) hr)
  unfold sorE
  by_cases h0 : chk l.length k = 0
  · rw [h0] at IV ⊢
    rw [if_pos rfl]
    rw [invA_ok h0] at IV
    by_cases hi : inv (bef k) l = 0
    · rw [show inO k l = true by simp [inO, hi]]
      rw [hi] at IV
      generalize l.length = n at *
      clear hr h0 hi
      go_enter Try.func24, Try.ntmps24
      go_wp2_with fail
      refine IV.out.mono ?_
      rintro e w1 ⟨rfl, k1⟩
      have K1 := hide k1
      clear k1
      go_wp2_with fail
      go_ret2
      exact ⟨rfl, K1.out⟩
    · rw [show inO k l = false by simp [inO, hi]]
      obtain ⟨N, hN⟩ : ∃ N, N = inv (bef k) l := ⟨_, rfl⟩
      rw [← hN] at IV hi
      have d1 : ((N : Int) == 0) = false := by simp; omega
      generalize l.length = n at *
      clear hr h0 hi hN
      go_enter Try.func24, Try.ntmps24
      go_wp2_with fail
      refine IV.out.mono ?_
      rintro e w1 ⟨rfl, k1⟩
      have K1 := hide k1
      clear k1
      go_wp2_with fail
      go_ret2
      exact ⟨rfl, K1.out⟩
  · rw [if_neg h0]
    rw [invA_no h0] at IV
    have d : (chk l.length k == 0) = false := by simpa using h0
    generalize chk l.length k = z at *
    generalize l.length = n at *
    clear hr h0
    go_enter Try.func24, Try.ntmps24
    go_wp2_with fail
    refine IV.out.mono ?_
    rintro e w1 ⟨rfl, k1⟩
    have K1 := hide k1
    clear k1
    go_wp2_with fail
    go_ret2
    exact ⟨rfl, K1.out⟩
end Go.Proofs.Ytiebmjdclicheaa
