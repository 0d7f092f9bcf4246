/- Merge, on. -/
import Derived.Test.YtenoalfjobghnaaHM
set_option linter.unusedVariables false
set_option linter.unusedSimpArgs false
namespace Go.Proofs.Ytenoalfjobghnaa
open Go.RowKit

/-- the counts of which the first k have been added -/
def mid (C C' : Nat → Int) (k : Nat) : Nat → Int := fun i => if i < k then C i + C' i else C i
theorem mid_next (C C' : Nat → Int) (k : Nat) : updI (mid C C' k) k (C k + C' k) = mid C C' (k + 1) := by
  funext i
  unfold updI mid
  by_cases e : i = k
  · subst e; simp
  · simp only [if_neg e]
    by_cases h : i < k
    · rw [if_pos h, if_pos (by omega)]
    · rw [if_neg h, if_neg (by omega)]
theorem HM.congr {B : Nat} {w : World} {b : Nat} {vB vC : Value} {m : Nat} {V V' C C' : Nat → Int} (M : HM B w b vB vC m V C) (hv : ∀ i, i < m → V i = V' i) (hc : ∀ i, i < m + 1 → C i = C' i) : HM B w b vB vC m V' C' :=
  ⟨M.blk, by rw [← intsI_congr hv]; exact M.rB, by rw [← intsI_congr hc]; exact M.rC, M.ge, M.nB, M.nC, M.ne⟩
section
variable {B : Nat} {w : World} {b : Nat} {vB vC : Value} {m : Nat} {V C : Nat → Int} (M : HM B w b vB vC m V C) {B' b' : Nat} {wB wC : Value} {V' C' : Nat → Int} (M' : HM B' w b' wB wC m V' C') (hm : m ≤ 1024) (eq : ∀ i, i < m → V i = V' i)
  (nn : ∀ i, i < m + 1 → 0 ≤ C i) (nn' : ∀ i, i < m + 1 → 0 ≤ C' i)
include M M' hm eq nn nn'
set_option maxRecDepth 100000 in
set_option maxHeartbeats 4000000 in
theorem merge_over (t1 : sumI C (m + 1) ≤ 9223372036854775807) (t2 : sumI C' (m + 1) ≤ 9223372036854775807) (no : 9223372036854775807 < sumI C (m + 1) + sumI C' (m + 1)) :
    Calls Try.prog 25 #[.pointer (some ⟨b, 0, none⟩), .pointer (some ⟨b', 0, none⟩)] w fun e w' => e = .returned (.int .i64 7) ∧ Kp [] w w' := by
  obtain ⟨g, c, rfl⟩ := M.C_at
  obtain ⟨g', c', rfl⟩ := M'.C_at
  obtain ⟨p, cb, rfl⟩ := row_slice M.rB
  obtain ⟨p', cb', rfl⟩ := row_slice M'.rB
  have v0 := hide (valid_t M.c.2)
  have v1 := hide (valid_t M'.c.2)
  have T0 := hide (fun W (k : Kp [] w W) => total_t (M.keep k (by simp)) hm nn t1)
  have T1 := hide (fun W (k : Kp [] w W) => total_t (M'.keep k (by simp)) hm nn' t2)
  have A := hide (fun W => add_no (sumI C (m + 1)) (sumI C' (m + 1)) W (by have := sumI_nn nn (m + 1) (Nat.le_refl _); unfold I64; omega) (by have := sumI_nn nn' (m + 1) (Nat.le_refl _); unfold I64; omega) (by unfold I64; omega))
  have E : Hid (∀ W, Kp [] w W → Calls Try.prog 47 #[.slice p m cb, .slice p' m cb'] W fun e w' => e = .returned (.bool true) ∧ Kp [] W w') := fun W k => equal_y ((rd_any M.rB).below k) ((rd_any M'.rB).below k) (by omega) eq
  have AK : Hid (∀ W, Kp [] w W → W.cell? ⟨b, 0, none⟩ = some (.slice p m cb) ∧ W.cell? ⟨b', 0, none⟩ = some (.slice p' m cb')) := fun W k => ⟨(M.keep k (by simp)).c.1, (M'.keep k (by simp)).c.1⟩
  have a0 := AK.out _ (Kp.drewN [] w 1)
  clear M M' hm eq nn nn' t1 t2 no
  generalize sumI C (m + 1) = z at *
  generalize sumI C' (m + 1) = z' at *
  go_enter Try.func25, Try.ntmps25
  go_wp2_with fail
  refine v0.out.mono ?_
  rintro e w' ⟨rfl, rfl⟩
  go_wp2_with fail
  refine v1.out.mono ?_
  rintro e w' ⟨rfl, rfl⟩
  go_wp2_with fail
  go_region_held3 (fun w' => w'.cell? ⟨b, 0, none⟩ = some (.slice p m cb) ∧ w'.cell? ⟨b', 0, none⟩ = some (.slice p' m cb')) (first | with_reducible assumption | exact a0 | exact K2)
    (first | (go_at_call 47; refine (E.out _ (Kp.drewN [] _ 1)).mono ?_; rintro e w1 ⟨rfl, k1⟩; have K2 := AK.out _ ((Kp.drewN [] w 1).trans0 k1); have K1 := hide ((Kp.drewN [] w 1).trans0 k1); clear k1))
  all_goals
    clear K2
    go_wp2_with fail
    refine (T0.out _ K1.out).mono ?_
    rintro e w' ⟨rfl, rfl⟩
    go_wp2_with fail
    refine (T1.out _ K1.out).mono ?_
    rintro e w' ⟨rfl, rfl⟩
    go_wp2_with fail
    refine (A.out _).mono ?_
    rintro e w' ⟨rfl, rfl⟩
    go_wp2_with fail
    go_ret
    exact ⟨rfl, K1.out⟩
set_option maxRecDepth 100000 in
set_option maxHeartbeats 8000000 in
theorem merge_t (hne : ∀ g, vC.ownBlock = some g → b' ≠ g) (ok : sumI C (m + 1) + sumI C' (m + 1) ≤ 9223372036854775807) :
    Calls Try.prog 25 #[.pointer (some ⟨b, 0, none⟩), .pointer (some ⟨b', 0, none⟩)] w fun e w' => e = .returned (.int .i64 0) ∧ HM B w' b vB vC m V (fun i => C i + C' i) ∧ Kp (HM.own b vB vC) w w' := by
  obtain ⟨g, c, rfl⟩ := M.C_at
  obtain ⟨g', c', rfl⟩ := M'.C_at
  obtain ⟨p, cb, rfl⟩ := row_slice M.rB
  obtain ⟨p', cb', rfl⟩ := row_slice M'.rB
  have s1 := sumI_nn nn (m + 1) (Nat.le_refl _)
  have s2 := sumI_nn nn' (m + 1) (Nat.le_refl _)
  have v0 := hide (valid_t M.c.2)
  have v1 := hide (valid_t M'.c.2)
  have T0 := hide (fun W (k : Kp [] w W) => total_t (M.keep k (by simp)) hm nn (by omega))
  have T1 := hide (fun W (k : Kp [] w W) => total_t (M'.keep k (by simp)) hm nn' (by omega))
  have A := hide (fun W => add_ok (sumI C (m + 1)) (sumI C' (m + 1)) W (by unfold I64; omega) (by unfold I64; omega) (by unfold I64; omega))
  have E : Hid (∀ W, Kp [] w W → Calls Try.prog 47 #[.slice p m cb, .slice p' m cb'] W fun e w' => e = .returned (.bool true) ∧ Kp [] W w') := fun W k => equal_y ((rd_any M.rB).below k) ((rd_any M'.rB).below k) (by omega) eq
  have AK : Hid (∀ W, Kp [] w W → W.cell? ⟨b, 0, none⟩ = some (.slice p m cb) ∧ W.cell? ⟨b', 0, none⟩ = some (.slice p' m cb')) := fun W k => ⟨(M.keep k (by simp)).c.1, (M'.keep k (by simp)).c.1⟩
  have a0 := AK.out _ (Kp.drewN [] w 1)
  have FT : Hid (∀ i, i < m + 1 → IntKind.i64.wrap (C i + C' i) = C i + C' i) := fun i hi => by
    have h1 := sumI_mono nn (m + 1) (i + 1) (by omega) (Nat.le_refl _)
    have h2 := sumI_mono nn' (m + 1) (i + 1) (by omega) (Nat.le_refl _)
    have h3 := sumI_nn nn i (by omega)
    have h4 := sumI_nn nn' i (by omega)
    have h5 := nn i hi
    have h6 := nn' i hi
    have h7 : sumI C (i + 1) = sumI C i + C i := rfl
    have h8 : sumI C' (i + 1) = sumI C' i + C' i := rfl
    rw [IntKind.wrap_i64]; omega
  have HM0 := hide M
  have HM1 := hide M'
  have HNE := hide (hne g rfl)
  have HL := hide hm
  have bg : Hid (b ≠ g) := fun e => M.nC g rfl e.symm
  clear M M' hm eq nn nn' ok s1 s2 hne
  generalize sumI C (m + 1) = z at *
  generalize sumI C' (m + 1) = z' at *
  go_enter Try.func25, Try.ntmps25
  go_wp2_with fail
  refine v0.out.mono ?_
  rintro e w' ⟨rfl, rfl⟩
  go_wp2_with fail
  refine v1.out.mono ?_
  rintro e w' ⟨rfl, rfl⟩
  go_wp2_with fail
  go_region_held3 (fun w' => w'.cell? ⟨b, 0, none⟩ = some (.slice p m cb) ∧ w'.cell? ⟨b', 0, none⟩ = some (.slice p' m cb')) (first | with_reducible assumption | exact a0 | exact K2)
    (first | (go_at_call 47; refine (E.out _ (Kp.drewN [] _ 1)).mono ?_; rintro e w1 ⟨rfl, k1⟩; have K2 := AK.out _ ((Kp.drewN [] w 1).trans0 k1); have K1 := hide ((Kp.drewN [] w 1).trans0 k1); clear k1))
  clear K2 a0
  go_wp2_with fail
  refine (T0.out _ K1.out).mono ?_
  rintro e w' ⟨rfl, rfl⟩
  go_wp2_with fail
  refine (T1.out _ K1.out).mono ?_
  rintro e w' ⟨rfl, rfl⟩
  go_wp2_with fail
  refine (A.out _).mono ?_
  rintro e w' ⟨rfl, rfl⟩
  have M0 := hide (HM0.out.keep K1.out (by simp))
  have M1 := hide (HM1.out.keep K1.out (by simp))
  clear T0 T1 A E AK v0 v1
  obtain ⟨m1, hm1⟩ : ∃ m1, m1 = m + 1 := ⟨_, rfl⟩
  have HMM := hide hm1
  have c1 : w1.cell? ⟨b, 1, none⟩ = some (.slice (some ⟨g, 0, none⟩) m1 c) := by rw [hm1]; exact M0.out.c.2
  clear hm1
  go_wp2_with fail
  go_loopw [42] (fun i wr => ∃ k : Nat, i = .int .i64 (k : Int) ∧ Hid (k ≤ m1) ∧ Hid (HM B wr b (.slice p m cb) (.slice (some ⟨g, 0, none⟩) (m + 1) c) m V (mid C C' k)) ∧ Hid (wr.cell? ⟨b', 1, none⟩ = some (.slice (some ⟨g', 0, none⟩) (m + 1) c') ∧ ∀ i, k ≤ i → i < m + 1 → wr.cell? ⟨g', i, none⟩ = some (.int .i64 (C' i))) ∧ Hid (Kp (HM.own b (.slice p m cb) (.slice (some ⟨g, 0, none⟩) (m + 1) c)) w1 wr)) (fun i _ => m1 - (intOf i).toNat)
  case atStart =>
    refine ⟨0, rfl, Nat.zero_le _, M0.out.congr (fun _ _ => rfl) (fun i _ => by simp [mid]), ⟨M1.out.c.2, fun i _ hi => ?_⟩, Kp.refl _ _⟩
    have := M1.out.rC.cellAt i (by omega)
    rw [intsI_get C' hi] at this
    simpa using this
  case round =>
    obtain ⟨k, rfl, hk, hM, hO, hK⟩ := hrel
    by_cases hlt : k < m1
    · have dk : decide (k < m1) = true := by simpa using hlt
      have dk2 : decide ((k : Int) < (m1 : Int)) = true := by simpa using hlt
      have ww : IntKind.i64.wrap ((k : Int) + 1) = (k : Int) + 1 := by have := HL.out; have := HMM.out; rw [IntKind.wrap_i64]; omega
      have hlt' : k < m + 1 := by have := HMM.out; omega
      have b1 : (k : Int) < (m1 : Int) := by omega
      have c2 : wr.cell? ⟨b, 1, none⟩ = some (.slice (some ⟨g, 0, none⟩) m1 c) := by rw [HMM.out]; exact hM.out.c.2
      have c3 : wr.cell? ⟨b', 1, none⟩ = some (.slice (some ⟨g', 0, none⟩) m1 c') := by rw [HMM.out]; exact hO.out.1
      have e2 := hO.out.2 k (Nat.le_refl _) hlt'
      obtain ⟨gq, hq, e1, f1, _⟩ := row_cell hM.out.rC hlt'
      injection hq with hq; injection hq with hq; subst hq
      rw [intsI_get _ hlt', show mid C C' k k = C k by simp [mid]] at e1
      have WA := hide (FT.out k hlt')
      have HMX : Hid (HM B (wr.setCell ⟨g, k, none⟩ (.int .i64 (C k + C' k))) b (.slice p m cb) (.slice (some ⟨g, 0, none⟩) (m + 1) c) m V (mid C C' (k + 1))) := by
        have := hM.out.put k (C k + C' k)
        rw [mid_next] at this
        exact this
      have HOX : Hid ((wr.setCell ⟨g, k, none⟩ (.int .i64 (C k + C' k))).cell? ⟨b', 1, none⟩ = some (.slice (some ⟨g', 0, none⟩) (m + 1) c') ∧ ∀ i, k + 1 ≤ i → i < m + 1 → (wr.setCell ⟨g, k, none⟩ (.int .i64 (C k + C' k))).cell? ⟨g', i, none⟩ = some (.int .i64 (C' i))) := by
        refine ⟨?_, fun i h1 h2 => ?_⟩
        · rw [cell_far (by intro e; injection e with e1 _; exact HNE.out e1)]; exact hO.out.1
        · rw [cell_far (by intro e; injection e with _ e2; omega)]; exact hO.out.2 i (by omega) h2
      have HKX := hide (hK.out.trans (Kp.set (o := HM.own b (.slice p m cb) (.slice (some ⟨g, 0, none⟩) (m + 1) c)) wr ⟨g, k, none⟩ (.int .i64 (C k + C' k)) (by simp [HM.own, Value.ownBlock])) (fun z hz => .inl hz))
      have HLT := hide hlt
      clear hlt hlt'
      go_wp2_with fail
      go_region_law (fail)
      all_goals
        rw [WA.out]
        go_wp2_with fail
        go_roundw
        case rel => exact ⟨k + 1, by go_num, by have := HLT.out; show k + 1 ≤ m1; omega, HMX.out.keep (Kp.drewN [] _ 1) (by simp), HOX.out, HKX.out.trans (Kp.drewN [] _ 1) (by simp)⟩
        case measure => have := HLT.out; simp [intOf]; omega
    · have hkm : k = m1 := by have := hk.out; omega
      subst hkm
      have dk : decide (k < k) = false := by simp
      have dk2 : decide ((k : Int) < (k : Int)) = false := by simp
      clear hlt
      go_wp2_with fail
      go_ret
      refine ⟨rfl, hM.out.congr (fun _ _ => rfl) (fun i hi => by have := HMM.out; unfold mid; rw [if_pos (by omega)]), ?_⟩
      exact (K1.out.mono (by simp)).trans hK.out (fun z hz => .inl hz)
end
end Go.Proofs.Ytenoalfjobghnaa
