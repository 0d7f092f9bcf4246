/- New's errors. -/
import Derived.Test.YtenoalfjobghnaaHI
set_option linter.unusedVariables false
set_option linter.unusedSimpArgs false
namespace Go.Proofs.Ytenoalfjobghnaa
open Go.RowKit

theorem new_long {w : World} {p : Option Addr} {n c : Nat} (hn : 1024 < n) : Calls Try.prog 15 #[.slice p n c] w fun e w' => e = .returned (.tuple #[.pointer none, .int .i64 2]) ∧ w = w' := by
  have d1 : decide ((1024 : Int) < (n : Int)) = true := by simp; omega
  clear hn
  go_enter Try.func15, Try.ntmps15
  go_wp2_with fail
  go_ret2
  exact ⟨rfl, rfl⟩
theorem inc_of {V : Nat → Int} {n : Nat} (h : ∀ k, k + 1 < n → V k < V (k + 1)) : Inc V n := by
  intro i j hij
  induction j with
  | zero => omega
  | succ j ih =>
    intro hj
    have h1 := h j hj
    by_cases e : i = j
    · subst e; exact h1
    · exact Int.lt_trans (ih (by omega) (by omega)) h1
set_option maxRecDepth 100000 in
set_option maxHeartbeats 4000000 in
theorem new_down {w : World} {p : Option Addr} {n c : Nat} {V : Nat → Int} (h : Rd1 w p n V) (hn : n ≤ 1024) (no : ¬ Inc V n) :
    Calls Try.prog 15 #[.slice p n c] w fun e w' => e = .returned (.tuple #[.pointer none, .int .i64 2]) ∧ Kp [] w w' := by
  have HH := hide h
  have HN := hide hn
  have HI := hide no
  have d1 : decide ((1024 : Int) < (n : Int)) = false := by simp; omega
  clear h hn no
  go_enter Try.func15, Try.ntmps15
  go_wp2_with fail
  go_loopw [4] (fun x wr => ∃ k : Nat, Hid (∀ j, j < k → j + 1 < n → V j < V (j + 1)) ∧ x = .int .i64 ((k + 1 : Nat) : Int) ∧ Hid (Kp [] w wr)) (fun x _ => n - (intOf x).toNat)
  case atStart => exact ⟨0, fun j hj => absurd hj (by omega), rfl, Kp.refl _ _⟩
  case round =>
    obtain ⟨k, hS, rfl, hK⟩ := hrel
    obtain ⟨k1, hk1⟩ : ∃ k1, k1 = k + 1 := ⟨_, rfl⟩
    rw [← hk1]
    by_cases hlt : k1 < n
    · have dk : decide ((k1 : Int) < (n : Int)) = true := by simp; omega
      have dk' : decide (k1 < n) = true := by simp; omega
      have ww : IntKind.i64.wrap ((k1 : Int) + 1) = ((k1 + 1 : Nat) : Int) := by have := HN.out; rw [IntKind.wrap_i64]; omega
      have ws : IntKind.i64.wrap ((k1 : Int) - 1) = (k : Int) := by have := HN.out; rw [IntKind.wrap_i64]; omega
      have hb1 : (k1 : Int) < (n : Int) := by omega
      have hb2 : (k : Int) < (n : Int) := by omega
      rcases HH.out.below hK.out with h0 | ⟨g, off, rfl, hg, hc⟩
      · omega
      · have e1 := hc k1 hlt
        have e2 := hc k (by omega)
        have HL := hide (And.intro hlt hk1)
        by_cases hv : V k < V k1
        · have dv : decide (V k1 ≤ V k) = false := by simp; omega
          have HV := hide hv
          clear hc hg hk1 hv
          have HS2 : Hid (∀ j, j < k1 → j + 1 < n → V j < V (j + 1)) := fun j hj hjn => by
            by_cases e : j < k
            · exact hS.out j e hjn
            · have h1 := HL.out.2; have e2 : j = k := by omega
              subst e2; have := HV.out; rw [h1] at this; exact this
          clear hS HV
          generalize V k1 = y1 at *
          generalize V k = y2 at *
          go_wp2_with fail
          go_quiet (fail)
          go_wp2_with fail
          go_roundw
          case rel => exact ⟨k1, HS2, by first | rfl | go_num, hK.out.trans (Kp.drewN [] _ _) (by simp)⟩
          case measure => simp [intOf]; have := HL.out.1; omega
        · have dv : decide (V k1 ≤ V k) = true := by simp; omega
          clear hc hg hk1 hv hS
          generalize V k1 = y1 at *
          generalize V k = y2 at *
          go_wp2_with fail
          go_quiet (fail)
          go_wp2_with fail
          go_ret2
          exact ⟨rfl, hK.out.trans (Kp.drewN [] _ _) (by simp)⟩
    · exact absurd (inc_of (fun j hj => hS.out j (by omega) hj)) HI.out
end Go.Proofs.Ytenoalfjobghnaa
