/- slices.Equal; Merge. -/
import Derived.Test.YtenoalfjobghnaaHL
set_option linter.unusedVariables false
set_option linter.unusedSimpArgs false
namespace Go.Proofs.Ytenoalfjobghnaa
open Go.RowKit

theorem equal_l {w : World} {p q : Option Addr} {n n' c d : Nat} (ne : n ≠ n') : Calls Try.prog 47 #[.slice p n c, .slice q n' d] w fun e w' => e = .returned (.bool false) ∧ w = w' := by
  have d1 : (n == n') = false := by simpa using ne
  have d2 : decide (n = n') = false := by simpa using ne
  clear ne
  go_enter Try.func47, Try.ntmps47
  go_wp2_with fail
  go_ret
  exact ⟨rfl, rfl⟩
set_option maxRecDepth 100000 in
set_option maxHeartbeats 4000000 in
theorem equal_y {w : World} {p q : Option Addr} {n c d : Nat} {V V' : Nat → Int} (h1 : Rd1 w p n V) (h2 : Rd1 w q n V') (hl : n ≤ 65536) (eq : ∀ i, i < n → V i = V' i) :
    Calls Try.prog 47 #[.slice p n c, .slice q n d] w fun e w' => e = .returned (.bool true) ∧ Kp [] w w' := by
  have H1 := hide h1
  have H2 := hide h2
  have HL := hide hl
  have HE := hide eq
  clear h1 h2 hl eq
  go_enter Try.func47, Try.ntmps47
  go_wp2_with fail
  go_loopw [13] (fun i wr => ∃ k : Nat, i = .int .i64 (k : Int) ∧ Hid (k ≤ n) ∧ Hid (Kp [] w wr)) (fun i _ => n - (intOf i).toNat)
  case atStart => exact ⟨0, rfl, Nat.zero_le _, Kp.refl _ _⟩
  case round =>
    obtain ⟨k, rfl, hk, hq⟩ := hrel
    by_cases hlt : k < n
    · have dk : decide (k < n) = true := by simpa using hlt
      have dk2 : decide ((k : Int) < (n : Int)) = true := by simpa using hlt
      have ww : IntKind.i64.wrap ((k : Int) + 1) = (k : Int) + 1 := by have := HL.out; rw [IntKind.wrap_i64]; omega
      rcases H1.out.below hq.out with h0 | ⟨g1, o1, rfl, _, hc1⟩
      · omega
      rcases H2.out.below hq.out with h0 | ⟨g2, o2, rfl, _, hc2⟩
      · omega
      have e1 := hc1 k hlt
      have e2 := hc2 k hlt
      clear hc1 hc2
      rw [← HE.out k hlt] at e2
      generalize V k = x at *
      have HK := hide hlt
      go_wp2_with fail
      go_quiet (fail)
      go_wp2_with fail
      go_roundw
      case rel => exact ⟨k + 1, by go_num, by have := HK.out; show k + 1 ≤ n; omega, hq.out.trans0 (Kp.drewN [] _ _)⟩
      case measure => have := HK.out; simp [intOf]; omega
    · have dk : decide (k < n) = false := by simp; omega
      have dk2 : decide ((k : Int) < (n : Int)) = false := by simp; omega
      clear hlt
      go_wp2_with fail
      go_ret
      exact ⟨rfl, hq.out⟩
set_option maxRecDepth 100000 in
set_option maxHeartbeats 4000000 in
theorem equal_n {w : World} {p q : Option Addr} {n c d : Nat} {V V' : Nat → Int} (h1 : Rd1 w p n V) (h2 : Rd1 w q n V') (hl : n ≤ 65536) (ne : ¬ ∀ i, i < n → V i = V' i) :
    Calls Try.prog 47 #[.slice p n c, .slice q n d] w fun e w' => e = .returned (.bool false) ∧ Kp [] w w' := by
  have H1 := hide h1
  have H2 := hide h2
  have HL := hide hl
  have HE := hide ne
  clear h1 h2 hl ne
  go_enter Try.func47, Try.ntmps47
  go_wp2_with fail
  go_loopw [13] (fun i wr => ∃ k : Nat, i = .int .i64 (k : Int) ∧ Hid (k ≤ n) ∧ Hid (∀ j, j < k → V j = V' j) ∧ Hid (Kp [] w wr)) (fun i _ => n - (intOf i).toNat)
  case atStart => exact ⟨0, rfl, Nat.zero_le _, fun j hj => absurd hj (by omega), Kp.refl _ _⟩
  case round =>
    obtain ⟨k, rfl, hk, hs, hq⟩ := hrel
    by_cases hlt : k < n
    · have dk : decide (k < n) = true := by simpa using hlt
      have dk2 : decide ((k : Int) < (n : Int)) = true := by simpa using hlt
      have ww : IntKind.i64.wrap ((k : Int) + 1) = (k : Int) + 1 := by have := HL.out; rw [IntKind.wrap_i64]; omega
      rcases H1.out.below hq.out with h0 | ⟨g1, o1, rfl, _, hc1⟩
      · omega
      rcases H2.out.below hq.out with h0 | ⟨g2, o2, rfl, _, hc2⟩
      · omega
      have e1 := hc1 k hlt
      have e2 := hc2 k hlt
      clear hc1 hc2
      have HK := hide hlt
      by_cases hv : V k = V' k
      · have HS2 : Hid (∀ j, j < k + 1 → V j = V' j) := fun j hj => by
          by_cases e : j = k
          · rw [e]; exact hv
          · exact hs.out j (by omega)
        rw [← hv] at e2
        clear hs hv
        generalize V k = x at *
        go_wp2_with fail
        go_quiet (fail)
        go_wp2_with fail
        go_roundw
        case rel => exact ⟨k + 1, by go_num, by have := HK.out; show k + 1 ≤ n; omega, HS2, hq.out.trans0 (Kp.drewN [] _ _)⟩
        case measure => have := HK.out; simp [intOf]; omega
      · have dv : (V k == V' k) = false := by simpa using hv
        have dv2 : decide (V k = V' k) = false := by simpa using hv
        clear hs hv
        generalize V k = x at *
        generalize V' k = y at *
        go_wp2_with fail
        go_quiet (fail)
        go_wp2_with fail
        go_ret
        exact ⟨rfl, hq.out.trans0 (Kp.drewN [] _ _)⟩
    · exact absurd (fun j hj => hs.out j (by omega)) HE.out
theorem sumI_add (f g : Nat → Int) : ∀ k, sumI (fun i => f i + g i) k = sumI f k + sumI g k := by
  intro k
  induction k with
  | zero => rfl
  | succ k ih => simp only [sumI, ih]; omega
/-- h's bounds differ from o's -/
def differ (m m' : Nat) (V V' : Nat → Int) : Prop := m ≠ m' ∨ ¬ ∀ i, i < m → V i = V' i
section
variable {B : Nat} {w : World} {b : Nat} {vB vC : Value} {m : Nat} {V C : Nat → Int} (M : HM B w b vB vC m V C) {B' b' : Nat} {wB wC : Value} {m' : Nat} {V' C' : Nat → Int} (M' : HM B' w b' wB wC m' V' C') (hm : m ≤ 1024) (hm' : m' ≤ 1024)
include M M' hm hm'
set_option maxRecDepth 100000 in
set_option maxHeartbeats 4000000 in
theorem merge_arg (no : differ m m' V V') : Calls Try.prog 25 #[.pointer (some ⟨b, 0, none⟩), .pointer (some ⟨b', 0, none⟩)] w fun e w' => e = .returned (.int .i64 2) ∧ Kp [] w w' := by
  obtain ⟨g, c, rfl⟩ := M.C_at
  obtain ⟨g', c', rfl⟩ := M'.C_at
  obtain ⟨p, cb, rfl⟩ := row_slice M.rB
  obtain ⟨p', cb', rfl⟩ := row_slice M'.rB
  have v0 := hide (valid_t M.c.2)
  have v1 := hide (valid_t M'.c.2)
  have E : Hid (∀ W, Kp [] w W → Calls Try.prog 47 #[.slice p m cb, .slice p' m' cb'] W fun e w' => e = .returned (.bool false) ∧ Kp [] W w') := by
    intro W k
    by_cases e : m = m'
    · subst e
      rcases no with h | h
      · exact absurd rfl h
      · exact equal_n ((rd_any M.rB).below k) ((rd_any M'.rB).below k) (by omega) h
    · refine (equal_l e).mono ?_
      rintro e w' ⟨rfl, rfl⟩
      exact ⟨rfl, Kp.refl _ _⟩
  have AK : Hid (∀ W, Kp [] w W → W.cell? ⟨b, 0, none⟩ = some (.slice p m cb) ∧ W.cell? ⟨b', 0, none⟩ = some (.slice p' m' cb')) := fun W k => ⟨(M.keep k (by simp)).c.1, (M'.keep k (by simp)).c.1⟩
  have a0 := AK.out _ (Kp.drewN [] w 1)
  clear M M' hm hm' no
  go_enter Try.func25, Try.ntmps25
  go_wp2_with fail
  refine v0.out.mono ?_
  rintro e w' ⟨rfl, rfl⟩
  go_wp2_with fail
  refine v1.out.mono ?_
  rintro e w' ⟨rfl, rfl⟩
  go_wp2_with fail
  go_region_held3 (fun w' => w'.cell? ⟨b, 0, none⟩ = some (.slice p m cb) ∧ w'.cell? ⟨b', 0, none⟩ = some (.slice p' m' cb')) (first | with_reducible assumption | exact a0 | exact K2)
    (first | (go_at_call 47; refine (E.out _ (Kp.drewN [] _ 1)).mono ?_; rintro e w1 ⟨rfl, k1⟩; have K2 := AK.out _ ((Kp.drewN [] w 1).trans0 k1); have K1 := hide k1; clear k1))
  all_goals
    go_wp2_with fail
    go_ret
    exact ⟨rfl, (Kp.drewN [] _ 1).trans0 K1.out⟩
end
end Go.Proofs.Ytenoalfjobghnaa
