/- The specification's counters. -/
import Derived.Test.YtgcnccfmfnifbaaFK
import Derived.Test.YtgcnccfmfnifbaaFY
set_option linter.unusedVariables false
set_option linter.unusedSimpArgs false
namespace Go.Proofs.Ytgcnccfmfnifbaa
open Go.RowKit

def cV (C : Nat → Int) (i : Nat) : Value := .int .i64 (C i)
/-- the specification's counters in memory -/
structure RA (B : Nat) (w : World) (b n : Nat) (v : Value) (C : Nat → Int) : Prop where
  blk : w.heap[b]? = some (.cells #[.bool true, v] 65 (0, 0))
  row : w.ownsRow B 2 1 v n (rowV n (cV C))
  ne : ∀ k, v.ownBlock = some k → k ≠ b
  lo : B ≤ b
  nn : ∀ i, 0 ≤ C i
  out : ∀ i, n ≤ i → C i = 0
  tot : sumS C n ≤ 9223372036854775807
  hn : n ≤ 65536
theorem RA.keep {B : Nat} {w w' : World} {b n : Nat} {v : Value} {C : Nat → Int} {o : List Nat} (h : RA B w b n v C) (k : Kp o w w') (hb : b ∉ o) (hv : ∀ x, v.ownBlock = some x → x ∉ o) : RA B w' b n v C :=
  ⟨k.blk h.blk hb, k.row h.row hv, h.ne, h.lo, h.nn, h.out, h.tot, h.hn⟩
theorem RA.keep0 {B : Nat} {w w' : World} {b n : Nat} {v : Value} {C : Nat → Int} (h : RA B w b n v C) (k : Kp [] w w') : RA B w' b n v C := h.keep k (by simp) (by simp)
theorem RA.sum_bd {B : Nat} {w : World} {b n : Nat} {v : Value} {C : Nat → Int} (h : RA B w b n v C) {k : Nat} (hk : k ≤ n) : 0 ≤ sumS C k ∧ sumS C k ≤ sumS C n ∧ sumS C n ≤ 9223372036854775807 := by
  have a1 := sumS_mono h.nn hk
  have a2 := sumS_mono h.nn (Nat.zero_le k)
  have a3 : sumS C 0 = 0 := rfl
  have := h.tot
  omega
theorem upR' : Try.prog.pointee 28 = 65 := by kernel_rfl
theorem rvalid_m {B : Nat} {w : World} {b n : Nat} {v : Value} {C : Nat → Int} (h : RA B w b n v C) :
    Calls Try.prog 36 #[.pointer (some ⟨b, 0, none⟩)] w fun e w' => e = .returned (.bool true) ∧ w = w' := by
  have hp := upR'
  obtain ⟨c0, c1⟩ : w.cell? ⟨b, 0, none⟩ = some (.bool true) ∧ w.cell? ⟨b, 1, none⟩ = some v := by simp [cell_of_blk h.blk]
  clear h
  go_enter Try.func36, Try.ntmps36
  go_wp2_with fail
  go_ret
  exact ⟨rfl, rfl⟩
theorem rlen_t {B : Nat} {w : World} {b n : Nat} {v : Value} {C : Nat → Int} (h : RA B w b n v C) :
    Calls Try.prog 32 #[.pointer (some ⟨b, 0, none⟩)] w fun e w' => e = .returned (.int .i64 (n : Int)) ∧ w = w' := by
  have hp := upR'
  have V := hide (rvalid_m h)
  obtain ⟨p, c, rfl⟩ := row_slice h.row
  obtain ⟨c0, c1⟩ : w.cell? ⟨b, 0, none⟩ = some (.bool true) ∧ w.cell? ⟨b, 1, none⟩ = some (.slice p n c) := by simp [cell_of_blk h.blk]
  clear h
  go_enter Try.func32, Try.ntmps32
  go_wp2_with fail
  refine V.out.mono ?_
  rintro e w' ⟨rfl, rfl⟩
  go_wp2_with fail
  go_ret
  exact ⟨rfl, rfl⟩
theorem clip_r (k : Int) (n : Nat) (w : World) :
    Calls Try.prog 40 #[.int .i64 k, .int .i64 (n : Int)] w fun e w' => e = .returned (.int .i64 (clipN k n : Int)) ∧ w = w' := by
  by_cases h1 : k < 0
  · have d : decide (k < 0) = true := by simpa using h1
    have e : ((clipN k n : Nat) : Int) = 0 := by unfold clipN; rw [if_pos h1]; rfl
    rw [e]
    clear h1 e
    go_enter Try.func40, Try.ntmps40
    go_wp2_with fail
    go_ret
    exact ⟨rfl, rfl⟩
  · have d : decide (k < 0) = false := by simpa using h1
    by_cases h2 : (n : Int) < k
    · have d2 : decide ((n : Int) < k) = true := by simpa using h2
      have e : ((clipN k n : Nat) : Int) = (n : Int) := by unfold clipN; rw [if_neg h1]; omega
      rw [e]
      clear h1 h2 e
      go_enter Try.func40, Try.ntmps40
      go_wp2_with fail
      go_ret
      exact ⟨rfl, rfl⟩
    · have d2 : decide ((n : Int) < k) = false := by simpa using h2
      have e : ((clipN k n : Nat) : Int) = k := by unfold clipN; rw [if_neg h1]; omega
      rw [e]
      clear h1 h2 e
      go_enter Try.func40, Try.ntmps40
      go_wp2_with fail
      go_ret
      exact ⟨rfl, rfl⟩
set_option maxRecDepth 100000 in
set_option maxHeartbeats 4000000 in
theorem rget_t {B : Nat} {w : World} {b n : Nat} {v : Value} {C : Nat → Int} (h : RA B w b n v C) (i : Int) :
    Calls Try.prog 28 #[.pointer (some ⟨b, 0, none⟩), .int .i64 i] w fun e w' => e = .returned (.int .i64 (getV C n i)) ∧ w = w' := by
  have hp := upR'
  have V := hide (rvalid_m h)
  have R := hide h.row
  obtain ⟨p, c, rfl⟩ := row_slice h.row
  obtain ⟨c0, c1⟩ : w.cell? ⟨b, 0, none⟩ = some (.bool true) ∧ w.cell? ⟨b, 1, none⟩ = some (.slice p n c) := by simp [cell_of_blk h.blk]
  clear h
  by_cases h1 : i < 0
  · have e : getV C n i = 0 := by unfold getV; rw [if_neg (by omega)]
    rw [e]
    have d : decide (i < 0) = true := by simpa using h1
    clear e h1
    go_enter Try.func28, Try.ntmps28
    go_wp2_with fail
    refine V.out.mono ?_
    rintro e w' ⟨rfl, rfl⟩
    go_wp2_with fail
    go_ret
    exact ⟨rfl, rfl⟩
  · have d : decide (i < 0) = false := by simpa using h1
    by_cases h2 : (n : Int) ≤ i
    · have e : getV C n i = 0 := by unfold getV; rw [if_neg (by omega)]
      rw [e]
      have d2 : decide ((n : Int) ≤ i) = true := by simpa using h2
      clear e h1 h2
      go_enter Try.func28, Try.ntmps28
      go_wp2_with fail
      refine V.out.mono ?_
      rintro e w' ⟨rfl, rfl⟩
      go_wp2_with fail
      go_ret
      exact ⟨rfl, rfl⟩
    · obtain ⟨j, rfl⟩ : ∃ j : Nat, i = (j : Int) := ⟨i.toNat, by omega⟩
      have hj : j < n := by omega
      rw [getN hj]
      obtain ⟨g, rfl, e1, f1, _⟩ := row_cell R.out hj
      rw [rowV_get _ hj, cV] at e1
      have d2 : decide ((n : Int) ≤ (j : Int)) = false := by simpa using h2
      have d2' : decide (n ≤ j) = false := by simp; omega
      have bj : (j : Int) < (n : Int) := by omega
      clear h1 h2
      go_enter Try.func28, Try.ntmps28
      go_wp2_with fail
      refine V.out.mono ?_
      rintro e w' ⟨rfl, rfl⟩
      go_wp2_with fail
      go_ret
      exact ⟨rfl, rfl⟩
end Go.Proofs.Ytgcnccfmfnifbaa
