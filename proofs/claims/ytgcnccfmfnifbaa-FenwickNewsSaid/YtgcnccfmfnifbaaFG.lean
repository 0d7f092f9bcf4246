/- Range and Get. -/
import Derived.Test.YtgcnccfmfnifbaaFP
import Derived.Test.YtgcnccfmfnifbaaCa
set_option linter.unusedVariables false
set_option linter.unusedSimpArgs false
namespace Go.Proofs.Ytgcnccfmfnifbaa
open Go.RowKit

def rngV (C : Nat → Int) (n : Nat) (a b : Int) : Int := if b ≤ a then 0 else sumS C (clipN b n) - sumS C (clipN a n)
theorem clip_mono {a b : Int} (h : a ≤ b) (n : Nat) : clipN a n ≤ clipN b n := by unfold clipN; split <;> split <;> omega
theorem clip_le (a : Int) (n : Nat) : clipN a n ≤ n := by unfold clipN; split <;> omega
theorem clip_nat {k n : Nat} (h : k ≤ n) : clipN (k : Int) n = k := by unfold clipN; rw [if_neg (by omega)]; omega
theorem FAt.sum_bd {B : Nat} {w : World} {b n : Nat} {own : List Nat} {C : Nat → Int} (h : FAt B w b n own C) {k : Nat} (hk : k ≤ n) : 0 ≤ sumS C k ∧ sumS C k ≤ sumS C n ∧ sumS C n ≤ 9223372036854775807 := by
  have a1 := sumS_mono h.nn hk
  have a2 := sumS_mono h.nn (Nat.zero_le k)
  have a3 : sumS C 0 = 0 := rfl
  have := h.tot
  omega
set_option maxRecDepth 100000 in
set_option maxHeartbeats 4000000 in
theorem range_t {B : Nat} {w : World} {b n : Nat} {own : List Nat} {C : Nat → Int} (h : FAt B w b n own C) (x y : Int) :
    Calls Try.prog 23 #[.pointer (some ⟨b, 0, none⟩), .int .i64 x, .int .i64 y] w fun e w' => e = .returned (.int .i64 (rngV C n x y)) ∧ Kp [] w w' := by
  by_cases hxy : y ≤ x
  · have e : rngV C n x y = 0 := by unfold rngV; rw [if_pos hxy]
    rw [e]
    have d : decide (y ≤ x) = true := by simpa using hxy
    clear h e hxy
    go_enter Try.func23, Try.ntmps23
    go_wp2_with fail
    go_ret
    exact ⟨rfl, Kp.refl _ _⟩
  · have e : rngV C n x y = sumS C (clipN y n) - sumS C (clipN x n) := by unfold rngV; rw [if_neg hxy]
    rw [e]
    have d : decide (y ≤ x) = false := by simpa using hxy
    have PX := hide (fun W (kW : Kp [] w W) => prefix_t (h.keep0 kW) x)
    have PY := hide (fun W (kW : Kp [] w W) => prefix_t (h.keep0 kW) y)
    have b1 := h.sum_bd (clip_le x n)
    have b2 := h.sum_bd (clip_le y n)
    have b3 := sumS_mono h.nn (clip_mono (show x ≤ y by omega) n)
    generalize sumS C (clipN y n) = sy at *
    generalize sumS C (clipN x n) = sx at *
    have ww : IntKind.i64.wrap (sy - sx) = sy - sx := by rw [IntKind.wrap_i64]; omega
    clear h e hxy b1 b2 b3
    go_enter Try.func23, Try.ntmps23
    go_wp2_with fail
    refine (PY.out _ (Kp.refl _ _)).mono ?_
    rintro e w1 ⟨rfl, k1⟩
    have K1 := hide k1
    clear k1
    go_wp2_with fail
    refine (PX.out _ K1.out).mono ?_
    rintro e w2 ⟨rfl, k2⟩
    have K2 := hide (K1.out.trans0 k2)
    clear k2
    go_wp2_with fail
    go_ret
    exact ⟨rfl, K2.out⟩
def getV (C : Nat → Int) (n : Nat) (i : Int) : Int := if 0 ≤ i ∧ i < (n : Int) then C i.toNat else 0
set_option maxRecDepth 100000 in
set_option maxHeartbeats 4000000 in
theorem get_t {B : Nat} {w : World} {b n : Nat} {own : List Nat} {C : Nat → Int} (h : FAt B w b n own C) (i : Int) :
    Calls Try.prog 21 #[.pointer (some ⟨b, 0, none⟩), .int .i64 i] w fun e w' => e = .returned (.int .i64 (getV C n i)) ∧ Kp [] w w' := by
  have LT := hide (len_t h)
  by_cases h1 : i < 0
  · have e : getV C n i = 0 := by unfold getV; rw [if_neg (by omega)]
    rw [e]
    have d : decide (i < 0) = true := by simpa using h1
    clear h e h1
    go_enter Try.func21, Try.ntmps21
    go_wp2_with fail
    go_ret
    exact ⟨rfl, Kp.refl _ _⟩
  · by_cases h2 : (n : Int) ≤ i
    · have e : getV C n i = 0 := by unfold getV; rw [if_neg (by omega)]
      rw [e]
      have d : decide (i < 0) = false := by simpa using h1
      have d2 : decide ((n : Int) ≤ i) = true := by simpa using h2
      clear h e h1 h2
      go_enter Try.func21, Try.ntmps21
      go_wp2_with fail
      refine LT.out.mono ?_
      rintro e w1 ⟨rfl, rfl⟩
      go_wp2_with fail
      go_ret
      exact ⟨rfl, Kp.refl _ _⟩
    · have hn := h.hn
      obtain ⟨j, rfl⟩ : ∃ j : Nat, i = (j : Int) := ⟨i.toNat, by omega⟩
      have e : getV C n (j : Int) = rngV C n (j : Int) ((j : Int) + 1) := by
        unfold getV rngV
        rw [if_pos (by omega), if_neg (by omega), clip_nat (by omega), show (j : Int) + 1 = ((j + 1 : Nat) : Int) by omega, clip_nat (by omega), sumS, Int.toNat_natCast]
        omega
      rw [e]
      have RG := hide (range_t h (j : Int) ((j : Int) + 1))
      generalize rngV C n (j : Int) ((j : Int) + 1) = r at *
      have d : decide ((j : Int) < 0) = false := by simp
      have d2 : decide ((n : Int) ≤ (j : Int)) = false := by simpa using h2
      have d2' : decide (n ≤ j) = false := by simp; omega
      have ww : IntKind.i64.wrap ((j : Int) + 1) = (j : Int) + 1 := by rw [IntKind.wrap_i64]; omega
      clear h e h1 h2 hn
      go_enter Try.func21, Try.ntmps21
      go_wp2_with fail
      refine LT.out.mono ?_
      rintro e w1 ⟨rfl, rfl⟩
      go_wp2_with fail
      refine RG.out.mono ?_
      rintro e w2 ⟨rfl, k2⟩
      have K2 := hide k2
      clear k2
      go_wp2_with fail
      go_ret
      exact ⟨rfl, K2.out⟩
end Go.Proofs.Ytgcnccfmfnifbaa
