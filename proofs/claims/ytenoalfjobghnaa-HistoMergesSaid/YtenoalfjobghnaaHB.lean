/- search, and Bucket. -/
import Derived.Test.YtenoalfjobghnaaHA
set_option linter.unusedVariables false
set_option linter.unusedSimpArgs false
namespace Go.Proofs.Ytenoalfjobghnaa
open Go.RowKit

theorem enters_b (args : Array Value) (w : World) : (callFunc 42 args).run Try.prog w = .ok (.enter 42 args) w := by kernel_rfl
theorem enters_q (args : Array Value) (w : World) : (callFunc 43 args).run Try.prog w = .ok (.enter 43 args) w := by kernel_rfl
set_option maxRecDepth 100000 in
set_option maxHeartbeats 4000000 in
theorem search_t {w : World} {n k : Nat} {cap : Array Value} {P : Nat → Bool} (he : ∀ args w, (callFunc k args).run Try.prog w = .ok (.enter k args) w) (hn : n ≤ 65536) (mono : ∀ i j, i ≤ j → j < n → P i = true → P j = true)
    (hc : ∀ W, Kp [] w W → ∀ i : Nat, i < n → Calls Try.prog k (#[.int .i64 (i : Int)] ++ cap) W fun e W' => e = .returned (.bool (P i)) ∧ Kp [] W W') :
    Calls Try.prog 41 #[.int .i64 (n : Int), .func (.func k) #[] cap] w fun e w' => ∃ r : Nat, e = .returned (.int .i64 (r : Int)) ∧ r ≤ n ∧ (∀ i, i < r → P i = false) ∧ (∀ i, r ≤ i → i < n → P i = true) ∧ Kp [] w w' := by
  have HC := hide hc
  have HN := hide hn
  have HM := hide mono
  clear hc hn mono
  go_enter Try.func41, Try.ntmps41
  go_wp2_with fail
  go_loopw [5, 6] (fun x y wr => ∃ l h : Nat, l ≤ h ∧ h ≤ n ∧ x = .int .i64 (l : Int) ∧ y = .int .i64 (h : Int) ∧ Hid ((∀ i, i < l → P i = false) ∧ ∀ i, h ≤ i → i < n → P i = true) ∧ Hid (Kp [] w wr)) (fun x y _ => (intOf y).toNat - (intOf x).toNat)
  case atStart => exact ⟨0, n, Nat.zero_le _, Nat.le_refl _, rfl, rfl, ⟨fun i hi => absurd hi (by omega), fun i h1 h2 => absurd h2 (by omega)⟩, Kp.refl _ _⟩
  case round =>
    obtain ⟨l, h, hlh, hh, rfl, rfl, hP, hK⟩ := hrel
    by_cases hlt : l < h
    · have dk : decide ((l : Int) < (h : Int)) = true := by simp; omega
      have dk' : decide (l < h) = true := by simp; omega
      obtain ⟨s, hs⟩ : ∃ s, s = l + h := ⟨_, rfl⟩
      obtain ⟨m, hm⟩ : ∃ m, m = s / 2 := ⟨_, rfl⟩
      have ad : (l : Int) + (h : Int) = (s : Int) := by omega
      have ws : IntKind.i64.wrap (s : Int) = (s : Int) := by have := HN.out; rw [IntKind.wrap_i64]; omega
      have td : (s : Int).tdiv 2 = (m : Int) := by rw [hm]; rfl
      have wm : IntKind.i64.wrap (m : Int) = (m : Int) := by have := HN.out; rw [IntKind.wrap_i64]; omega
      have am : IntKind.i64.wrap ((m : Int) + 1) = ((m + 1 : Nat) : Int) := by have := HN.out; rw [IntKind.wrap_i64]; omega
      have hml : l ≤ m := by omega
      have hmh : m < h := by omega
      have CC := hide (HC.out _ hK.out m (by omega))
      clear hs hm
      go_wp2_with fail
      refine CC.out.mono ?_
      rintro e w1 ⟨rfl, k1⟩
      have HK1 := hide (hK.out.trans k1 (by simp))
      clear k1 CC hK
      by_cases hp : P m = true
      · have HPM := hide hp
        rw [hp]
        clear hp
        go_wp2_with fail
        go_roundw
        case rel => exact ⟨l, m, hml, by omega, rfl, rfl, ⟨hP.out.1, fun i h1 h2 => HM.out m i h1 h2 HPM.out⟩, HK1⟩
        case measure => simp [intOf]; omega
      · have hp' : P m = false := by simpa using hp
        have HPM := hide hp'
        rw [hp']
        clear hp hp'
        go_wp2_with fail
        go_roundw
        case rel => exact ⟨m + 1, h, by omega, hh, by first | rfl | go_num, rfl, ⟨fun i hi => by
          cases hq : P i with
          | false => rfl
          | true => have := HM.out i m (by omega) (by omega) hq; rw [HPM.out] at this; exact absurd this (by simp), hP.out.2⟩, HK1⟩
        case measure => simp [intOf]; omega
    · have : l = h := by omega
      subst this
      have dk : decide ((l : Int) < (l : Int)) = false := by simp
      have dk' : decide (l < l) = false := by simp
      go_wp2_with fail
      go_ret
      exact ⟨l, rfl, hh, hP.out.1, hP.out.2, hK.out⟩
end Go.Proofs.Ytenoalfjobghnaa
