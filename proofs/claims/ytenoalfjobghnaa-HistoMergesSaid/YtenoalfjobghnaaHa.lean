/- The specification's Merge; both sides' Merge. -/
import Derived.Test.YtenoalfjobghnaaHW
set_option linter.unusedVariables false
set_option linter.unusedSimpArgs false
namespace Go.Proofs.Ytenoalfjobghnaa
open Go.RowKit

theorem requal_l {w : World} {p q : Option Addr} {n n' c d : Nat} (ne : n ≠ n') : Calls Try.prog 48 #[.slice p n c, .slice q n' d] w fun e w' => e = .returned (.bool false) ∧ w = w' := by
  have d1 : (n == n') = false := by simpa using ne
  have d2 : decide (n = n') = false := by simpa using ne
  clear ne
  go_enter Try.func48, Try.ntmps48
  go_wp2_with fail
  go_ret
  exact ⟨rfl, rfl⟩
set_option maxRecDepth 100000 in
set_option maxHeartbeats 4000000 in
theorem requal_y {w : World} {p q : Option Addr} {n c d : Nat} {V V' : Nat → Int} (h1 : Rd1 w p n V) (h2 : Rd1 w q n V') (hl : n ≤ 65536) (eq : ∀ i, i < n → V i = V' i) :
    Calls Try.prog 48 #[.slice p n c, .slice q n d] w fun e w' => e = .returned (.bool true) ∧ Kp [] w w' := by
  have H1 := hide h1
  have H2 := hide h2
  have HL := hide hl
  have HE := hide eq
  clear h1 h2 hl eq
  go_enter Try.func48, Try.ntmps48
  go_wp2_with fail
  go_loopw [5] (fun i wr => ∃ k : Nat, i = .int .i64 (k : Int) ∧ Hid (k ≤ n) ∧ Hid (Kp [] w wr)) (fun i _ => n - (intOf i).toNat)
  case atStart => exact ⟨0, rfl, Nat.zero_le _, Kp.refl _ _⟩
  case round =>
    obtain ⟨k, rfl, hk, hq⟩ := hrel
    by_cases hlt : k < n
    · have dk : decide (k < n) = true := by simpa using hlt
      have dk2 : decide ((k : Int) < (n : Int)) = true := by simpa using hlt
      have ww : IntKind.i64.wrap ((k : Int) + 1) = (k : Int) + 1 := by have := HL.out; rw [IntKind.wrap_i64]; omega
      rcases H1.out.below hq.out with h0 | ⟨g1, o1, rfl, _, hc1⟩
      · omega
      rcases H2.out.below hq.out with h0 | ⟨g2, o2, rfl, _, hc2⟩
      · omega
      have e1 := hc1 k hlt
      have e2 := hc2 k hlt
      clear hc1 hc2
      rw [← HE.out k hlt] at e2
      generalize V k = x at *
      have HK := hide hlt
      go_wp2_with fail
      go_quiet (fail)
      go_wp2_with fail
      go_roundw
      case rel => exact ⟨k + 1, by go_num, by have := HK.out; show k + 1 ≤ n; omega, hq.out.trans0 (Kp.drewN [] _ _)⟩
      case measure => have := HK.out; simp [intOf]; omega
    · have dk : decide (k < n) = false := by simp; omega
      have dk2 : decide ((k : Int) < (n : Int)) = false := by simp; omega
      clear hlt
      go_wp2_with fail
      go_ret
      exact ⟨rfl, hq.out⟩
set_option maxRecDepth 100000 in
set_option maxHeartbeats 4000000 in
theorem requal_n {w : World} {p q : Option Addr} {n c d : Nat} {V V' : Nat → Int} (h1 : Rd1 w p n V) (h2 : Rd1 w q n V') (hl : n ≤ 65536) (ne : ¬ ∀ i, i < n → V i = V' i) :
    Calls Try.prog 48 #[.slice p n c, .slice q n d] w fun e w' => e = .returned (.bool false) ∧ Kp [] w w' := by
  have H1 := hide h1
  have H2 := hide h2
  have HL := hide hl
  have HE := hide ne
  clear h1 h2 hl ne
  go_enter Try.func48, Try.ntmps48
  go_wp2_with fail
  go_loopw [5] (fun i wr => ∃ k : Nat, i = .int .i64 (k : Int) ∧ Hid (k ≤ n) ∧ Hid (∀ j, j < k → V j = V' j) ∧ Hid (Kp [] w wr)) (fun i _ => n - (intOf i).toNat)
  case atStart => exact ⟨0, rfl, Nat.zero_le _, fun j hj => absurd hj (by omega), Kp.refl _ _⟩
  case round =>
    obtain ⟨k, rfl, hk, hs, hq⟩ := hrel
    by_cases hlt : k < n
    · have dk : decide (k < n) = true := by simpa using hlt
      have dk2 : decide ((k : Int) < (n : Int)) = true := by simpa using hlt
      have ww : IntKind.i64.wrap ((k : Int) + 1) = (k : Int) + 1 := by have := HL.out; rw [IntKind.wrap_i64]; omega
      rcases H1.out.below hq.out with h0 | ⟨g1, o1, rfl, _, hc1⟩
      · omega
      rcases H2.out.below hq.out with h0 | ⟨g2, o2, rfl, _, hc2⟩
      · omega
      have e1 := hc1 k hlt
      have e2 := hc2 k hlt
      clear hc1 hc2
      have HK := hide hlt
      by_cases hv : V k = V' k
      · have HS2 : Hid (∀ j, j < k + 1 → V j = V' j) := fun j hj => by
          by_cases e : j = k
          · rw [e]; exact hv
          · exact hs.out j (by omega)
        rw [← hv] at e2
        clear hs hv
        generalize V k = x at *
        go_wp2_with fail
        go_quiet (fail)
        go_wp2_with fail
        go_roundw
        case rel => exact ⟨k + 1, by go_num, by have := HK.out; show k + 1 ≤ n; omega, HS2, hq.out.trans0 (Kp.drewN [] _ _)⟩
        case measure => have := HK.out; simp [intOf]; omega
      · have dv : (V k == V' k) = false := by simpa using hv
        have dv2 : decide (V k = V' k) = false := by simpa using hv
        clear hs hv
        generalize V k = x at *
        generalize V' k = y at *
        go_wp2_with fail
        go_quiet (fail)
        go_wp2_with fail
        go_ret
        exact ⟨rfl, hq.out.trans0 (Kp.drewN [] _ _)⟩
    · exact absurd (fun j hj => hs.out j (by omega)) HE.out
section
variable {B : Nat} {w : World} {b : Nat} {vB vC : Value} {m : Nat} {V C : Nat → Int} (M : RM B w b vB vC m V C) {B' b' : Nat} {wB wC : Value} {m' : Nat} {V' C' : Nat → Int} (M' : RM B' w b' wB wC m' V' C') (hm : m ≤ 1024) (hm' : m' ≤ 1024)
include M M' hm hm'
set_option maxRecDepth 100000 in
set_option maxHeartbeats 4000000 in
theorem rmerge_arg (no : differ m m' V V') : Calls Try.prog 26 #[.pointer (some ⟨b, 0, none⟩), .pointer (some ⟨b', 0, none⟩)] w fun e w' => e = .returned (.int .i64 2) ∧ Kp [] w w' := by
  obtain ⟨g, c, rfl⟩ := M.C_at
  obtain ⟨g', c', rfl⟩ := M'.C_at
  obtain ⟨p, cb, rfl⟩ := row_slice M.rB
  obtain ⟨p', cb', rfl⟩ := row_slice M'.rB
  have v0 := hide (rvalid_t M.c.1)
  have v1 := hide (rvalid_t M'.c.1)
  have E : Hid (∀ W, Kp [] w W → Calls Try.prog 48 #[.slice p m cb, .slice p' m' cb'] W fun e w' => e = .returned (.bool false) ∧ Kp [] W w') := by
    intro W k
    by_cases e : m = m'
    · subst e
      rcases no with h | h
      · exact absurd rfl h
      · exact requal_n ((rd_any M.rB).below k) ((rd_any M'.rB).below k) (by omega) h
    · refine (requal_l e).mono ?_
      rintro e w' ⟨rfl, rfl⟩
      exact ⟨rfl, Kp.refl _ _⟩
  have AK : Hid (∀ W, Kp [] w W → W.cell? ⟨b, 1, none⟩ = some (.slice p m cb) ∧ W.cell? ⟨b', 1, none⟩ = some (.slice p' m' cb')) := fun W k => ⟨(M.keep k (by simp)).c.2.1, (M'.keep k (by simp)).c.2.1⟩
  have a0 := AK.out _ (Kp.drewN [] w 1)
  clear M M' hm hm' no
  go_enter Try.func26, Try.ntmps26
  go_wp2_with fail
  refine v0.out.mono ?_
  rintro e w' ⟨rfl, rfl⟩
  go_wp2_with fail
  refine v1.out.mono ?_
  rintro e w' ⟨rfl, rfl⟩
  go_wp2_with fail
  go_region_held3 (fun w' => w'.cell? ⟨b, 1, none⟩ = some (.slice p m cb) ∧ w'.cell? ⟨b', 1, none⟩ = some (.slice p' m' cb')) (first | with_reducible assumption | exact a0 | exact K2)
    (first | (go_at_call 48; refine (E.out _ (Kp.drewN [] _ 1)).mono ?_; rintro e w1 ⟨rfl, k1⟩; have K2 := AK.out _ ((Kp.drewN [] w 1).trans0 k1); have K1 := hide k1; clear k1))
  all_goals
    go_wp2_with fail
    go_ret
    exact ⟨rfl, (Kp.drewN [] _ 1).trans0 K1.out⟩
end
section
variable {B : Nat} {w : World} {b : Nat} {vB vC : Value} {m : Nat} {V C : Nat → Int} (M : RM B w b vB vC m V C) {B' b' : Nat} {wB wC : Value} {V' C' : Nat → Int} (M' : RM B' w b' wB wC m V' C') (hm : m ≤ 1024) (eq : ∀ i, i < m → V i = V' i)
  (nn : ∀ i, i < m + 1 → 0 ≤ C i) (nn' : ∀ i, i < m + 1 → 0 ≤ C' i)
include M M' hm eq nn nn'
set_option maxRecDepth 100000 in
set_option maxHeartbeats 4000000 in
theorem rmerge_over (t1 : sumI C (m + 1) ≤ 9223372036854775807) (t2 : sumI C' (m + 1) ≤ 9223372036854775807) (no : 9223372036854775807 < sumI C (m + 1) + sumI C' (m + 1)) :
    Calls Try.prog 26 #[.pointer (some ⟨b, 0, none⟩), .pointer (some ⟨b', 0, none⟩)] w fun e w' => e = .returned (.int .i64 7) ∧ Kp [] w w' := by
  obtain ⟨g, c, rfl⟩ := M.C_at
  obtain ⟨g', c', rfl⟩ := M'.C_at
  obtain ⟨p, cb, rfl⟩ := row_slice M.rB
  obtain ⟨p', cb', rfl⟩ := row_slice M'.rB
  have v0 := hide (rvalid_t M.c.1)
  have v1 := hide (rvalid_t M'.c.1)
  have T0 := hide (fun W (k : Kp [] w W) => rtotal_t (M.keep k (by simp)) hm nn t1)
  have T1 := hide (fun W (k : Kp [] w W) => rtotal_t (M'.keep k (by simp)) hm nn' t2)
  have z0 := sumI_nn nn (m + 1) (Nat.le_refl _)
  have z1 := sumI_nn nn' (m + 1) (Nat.le_refl _)
  have wy : IntKind.i64.wrap (9223372036854775807 - sumI C (m + 1)) = 9223372036854775807 - sumI C (m + 1) := by rw [IntKind.wrap_i64]; omega
  obtain ⟨y, hy⟩ : ∃ y, y = 9223372036854775807 - sumI C (m + 1) := ⟨_, rfl⟩
  have dy : decide (y < sumI C' (m + 1)) = true := by simp; omega
  have wy' : IntKind.i64.wrap (9223372036854775807 - sumI C (m + 1)) = y := wy.trans hy.symm
  have HY := hide hy
  clear wy hy z0 z1
  have E : Hid (∀ W, Kp [] w W → Calls Try.prog 48 #[.slice p m cb, .slice p' m cb'] W fun e w' => e = .returned (.bool true) ∧ Kp [] W w') := fun W k => requal_y ((rd_any M.rB).below k) ((rd_any M'.rB).below k) (by omega) eq
  have AK : Hid (∀ W, Kp [] w W → W.cell? ⟨b, 1, none⟩ = some (.slice p m cb) ∧ W.cell? ⟨b', 1, none⟩ = some (.slice p' m cb')) := fun W k => ⟨(M.keep k (by simp)).c.2.1, (M'.keep k (by simp)).c.2.1⟩
  have a0 := AK.out _ (Kp.drewN [] w 1)
  clear M M' hm eq nn nn' t1 t2 no
  generalize sumI C (m + 1) = z at *
  generalize sumI C' (m + 1) = z' at *
  go_enter Try.func26, Try.ntmps26
  go_wp2_with fail
  refine v0.out.mono ?_
  rintro e w' ⟨rfl, rfl⟩
  go_wp2_with fail
  refine v1.out.mono ?_
  rintro e w' ⟨rfl, rfl⟩
  go_wp2_with fail
  go_region_held3 (fun w' => w'.cell? ⟨b, 1, none⟩ = some (.slice p m cb) ∧ w'.cell? ⟨b', 1, none⟩ = some (.slice p' m cb')) (first | with_reducible assumption | exact a0 | exact K2)
    (first | (go_at_call 48; refine (E.out _ (Kp.drewN [] _ 1)).mono ?_; rintro e w1 ⟨rfl, k1⟩; have K2 := AK.out _ ((Kp.drewN [] w 1).trans0 k1); have K1 := hide ((Kp.drewN [] w 1).trans0 k1); clear k1))
  all_goals
    clear K2
    go_wp2_with fail
    refine (T1.out _ K1.out).mono ?_
    rintro e w' ⟨rfl, rfl⟩
    go_wp2_with fail
    refine (T0.out _ K1.out).mono ?_
    rintro e w' ⟨rfl, rfl⟩
    go_wp2_with fail
    go_ret
    exact ⟨rfl, K1.out⟩
set_option maxRecDepth 100000 in
set_option maxHeartbeats 8000000 in
theorem rmerge_t (ok : sumI C (m + 1) + sumI C' (m + 1) ≤ 9223372036854775807) :
    Calls Try.prog 26 #[.pointer (some ⟨b, 0, none⟩), .pointer (some ⟨b', 0, none⟩)] w fun e w' => e = .returned (.int .i64 0) ∧ RM B w' b vB vC m V (fun i => C i + C' i) ∧ Kp (HM.own b vB vC) w w' := by
  have CO := hide (fun W (k : Kp [] w W) => rcounts_t (M'.keep k (by simp)) hm)
  obtain ⟨g, c, rfl⟩ := M.C_at
  obtain ⟨g', c', rfl⟩ := M'.C_at
  obtain ⟨p, cb, rfl⟩ := row_slice M.rB
  obtain ⟨p', cb', rfl⟩ := row_slice M'.rB
  have s1 := sumI_nn nn (m + 1) (Nat.le_refl _)
  have s2 := sumI_nn nn' (m + 1) (Nat.le_refl _)
  have v0 := hide (rvalid_t M.c.1)
  have v1 := hide (rvalid_t M'.c.1)
  have T0 := hide (fun W (k : Kp [] w W) => rtotal_t (M.keep k (by simp)) hm nn (by omega))
  have T1 := hide (fun W (k : Kp [] w W) => rtotal_t (M'.keep k (by simp)) hm nn' (by omega))
  have wy : IntKind.i64.wrap (9223372036854775807 - sumI C (m + 1)) = 9223372036854775807 - sumI C (m + 1) := by rw [IntKind.wrap_i64]; omega
  obtain ⟨y, hy⟩ : ∃ y, y = 9223372036854775807 - sumI C (m + 1) := ⟨_, rfl⟩
  have dy : decide (y < sumI C' (m + 1)) = false := by simp; omega
  have wy' : IntKind.i64.wrap (9223372036854775807 - sumI C (m + 1)) = y := wy.trans hy.symm
  have HY := hide hy
  have E : Hid (∀ W, Kp [] w W → Calls Try.prog 48 #[.slice p m cb, .slice p' m cb'] W fun e w' => e = .returned (.bool true) ∧ Kp [] W w') := fun W k => requal_y ((rd_any M.rB).below k) ((rd_any M'.rB).below k) (by omega) eq
  have AK : Hid (∀ W, Kp [] w W → W.cell? ⟨b, 1, none⟩ = some (.slice p m cb) ∧ W.cell? ⟨b', 1, none⟩ = some (.slice p' m cb')) := fun W k => ⟨(M.keep k (by simp)).c.2.1, (M'.keep k (by simp)).c.2.1⟩
  have a0 := AK.out _ (Kp.drewN [] w 1)
  have FT : Hid (∀ i, i < m + 1 → IntKind.i64.wrap (C i + C' i) = C i + C' i) := fun i hi => by
    have h1 := sumI_mono nn (m + 1) (i + 1) (by omega) (Nat.le_refl _)
    have h2 := sumI_mono nn' (m + 1) (i + 1) (by omega) (Nat.le_refl _)
    have h3 := sumI_nn nn i (by omega)
    have h4 := sumI_nn nn' i (by omega)
    have h5 := nn i hi
    have h6 := nn' i hi
    have h7 : sumI C (i + 1) = sumI C i + C i := rfl
    have h8 : sumI C' (i + 1) = sumI C' i + C' i := rfl
    rw [IntKind.wrap_i64]; omega
  have HM0 := hide M
  have HL := hide hm
  clear M M' hm eq nn nn' ok s1 s2 wy hy
  generalize sumI C (m + 1) = z at *
  generalize sumI C' (m + 1) = z' at *
  go_enter Try.func26, Try.ntmps26
  go_wp2_with fail
  refine v0.out.mono ?_
  rintro e w' ⟨rfl, rfl⟩
  go_wp2_with fail
  refine v1.out.mono ?_
  rintro e w' ⟨rfl, rfl⟩
  have hp := ptrR
  go_wp2_with fail
  go_region_held3 (fun w' => w'.cell? ⟨b, 1, none⟩ = some (.slice p m cb) ∧ w'.cell? ⟨b', 1, none⟩ = some (.slice p' m cb')) (first | with_reducible assumption | exact a0 | exact K2)
    (first | (go_at_call 48; refine (E.out _ (Kp.drewN [] _ 1)).mono ?_; rintro e w1 ⟨rfl, k1⟩; have K2 := AK.out _ ((Kp.drewN [] w 1).trans0 k1); have K1 := hide ((Kp.drewN [] w 1).trans0 k1); clear k1))
  clear K2 a0
  go_wp2_with fail
  refine (T1.out _ K1.out).mono ?_
  rintro e w' ⟨rfl, rfl⟩
  go_wp2_with fail
  refine (T0.out _ K1.out).mono ?_
  rintro e w' ⟨rfl, rfl⟩
  have C1 := hide (CO.out _ K1.out)
  obtain ⟨m1, hm1⟩ : ∃ m1, m1 = m + 1 := ⟨_, rfl⟩
  have HMM := hide hm1
  rw [← hm1] at C1
  clear hm1 CO
  go_wp2_with fail
  refine C1.out.mono ?_
  rintro e w2 ⟨v2, rfl, r2, k2⟩
  obtain ⟨p2, d2, rfl⟩ := row_slice r2
  have K3 := hide (K1.out.trans0 k2)
  have M0 := hide (HM0.out.keep K3.out (by simp))
  have R2 := hide r2
  have dR := hide (show ∀ x, (Value.slice p2 m1 d2).ownBlock = some x → x ≠ g from fun x hx => by have := (r2.lt x hx).1; have := K1.out.size; have := (HM0.out.lt g (by simp [HM.own, Value.ownBlock])).2; omega)
  have c1 : w2.cell? ⟨b, 2, none⟩ = some (.slice (some ⟨g, 0, none⟩) m1 c) := by rw [HMM.out]; exact M0.out.c.2.2
  clear T0 T1 E AK v0 v1 r2 k2 C1
  go_wp2_with fail
  clear c1
  go_loopw [6] (fun i wr => ∃ k : Nat, i = .int .i64 (k : Int) ∧ Hid (k ≤ m1) ∧ Hid (RM B wr b (.slice p m cb) (.slice (some ⟨g, 0, none⟩) (m + 1) c) m V (mid C C' k)) ∧ Hid (wr.ownsRow w1.heap.size 2 1 (.slice p2 m1 d2) m1 (intsI m1 C')) ∧ Hid (Kp (HM.own b (.slice p m cb) (.slice (some ⟨g, 0, none⟩) (m + 1) c)) w2 wr)) (fun i _ => m1 - (intOf i).toNat)
  case atStart =>
    exact ⟨0, rfl, Nat.zero_le _, ⟨M0.out.blk, M0.out.rB, by have q := M0.out.rC; rw [intsI_congr (show ∀ i, i < m + 1 → C i = mid C C' 0 i from fun i _ => by simp [mid])] at q; exact q, M0.out.ge, M0.out.nB, M0.out.nC, M0.out.ne⟩, R2.out, Kp.refl _ _⟩
  case round =>
    obtain ⟨k, rfl, hk, hM, hR, hK⟩ := hrel
    have c2 : wr.cell? ⟨b, 2, none⟩ = some (.slice (some ⟨g, 0, none⟩) m1 c) := by rw [HMM.out]; exact hM.out.c.2.2
    by_cases hlt : k < m1
    · have dk : decide (k < m1) = true := by simpa using hlt
      have dk2 : decide ((k : Int) < (m1 : Int)) = true := by simpa using hlt
      have ww : IntKind.i64.wrap ((k : Int) + 1) = (k : Int) + 1 := by have := HL.out; have := HMM.out; rw [IntKind.wrap_i64]; omega
      have hlt' : k < m + 1 := by have := HMM.out; omega
      have b1 : (k : Int) < (m1 : Int) := by omega
      obtain ⟨gq, hq, e1, f1, _⟩ := row_cell hM.out.rC hlt'
      injection hq with hq; injection hq with hq; subst hq
      rw [intsI_get _ hlt', show mid C C' k k = C k by simp [mid]] at e1
      obtain ⟨g2, rfl, e2, _, _⟩ := row_cell hR.out hlt
      rw [intsI_get _ hlt] at e2
      have WA := hide (FT.out k hlt')
      have HMX : Hid (RM B (wr.setCell ⟨g, k, none⟩ (.int .i64 (C k + C' k))) b (.slice p m cb) (.slice (some ⟨g, 0, none⟩) (m + 1) c) m V (mid C C' (k + 1))) := by
        have := hM.out.put k (C k + C' k)
        rw [mid_next] at this
        exact this
      have HRX := hide (row_side hR.out (b := g) dR.out k (.int .i64 (C k + C' k)))
      have HKX := hide (hK.out.trans (Kp.set (o := HM.own b (.slice p m cb) (.slice (some ⟨g, 0, none⟩) (m + 1) c)) wr ⟨g, k, none⟩ (.int .i64 (C k + C' k)) (by simp [HM.own, Value.ownBlock])) (fun z hz => .inl hz))
      have HLT := hide hlt
      clear hlt hlt'
      go_wp2_with fail
      go_region_law (fail)
      all_goals
        rw [WA.out]
        go_wp2_with fail
        go_roundw
        case rel => exact ⟨k + 1, by go_num, by have := HLT.out; show k + 1 ≤ m1; omega, HMX.out.keep (Kp.drewN [] _ 1) (by simp), (Kp.drewN [] _ 1).row HRX.out (by simp), HKX.out.trans (Kp.drewN [] _ 1) (by simp)⟩
        case measure => have := HLT.out; simp [intOf]; omega
    · have hkm : k = m1 := by have := hk.out; omega
      subst hkm
      have dk : decide (k < k) = false := by simp
      have dk2 : decide ((k : Int) < (k : Int)) = false := by simp
      clear hlt
      go_wp2_with fail
      go_ret
      refine ⟨rfl, ⟨hM.out.blk, hM.out.rB, ?_, hM.out.ge, hM.out.nB, hM.out.nC, hM.out.ne⟩, (K3.out.mono (by simp)).trans hK.out (fun z hz => .inl hz)⟩
      have q := hM.out.rC
      rw [intsI_congr (show ∀ i, i < m + 1 → mid C C' k i = C i + C' i from fun i hi => by have := HMM.out; unfold mid; rw [if_pos (by omega)])] at q
      exact q
end
end Go.Proofs.Ytenoalfjobghnaa
