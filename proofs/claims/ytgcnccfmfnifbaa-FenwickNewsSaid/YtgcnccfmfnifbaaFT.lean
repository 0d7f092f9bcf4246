/- The specification's Range, Prefix, Total, Find, New. -/
import Derived.Test.YtgcnccfmfnifbaaFS
set_option linter.unusedVariables false
set_option linter.unusedSimpArgs false
namespace Go.Proofs.Ytgcnccfmfnifbaa
open Go.RowKit

theorem rngV_clip (C : Nat → Int) (n : Nat) (x y : Int) : rngV C n x y = if clipN x n < clipN y n then sumS C (clipN y n) - sumS C (clipN x n) else 0 := by
  unfold rngV
  by_cases h : y ≤ x
  · have := clip_mono h n
    rw [if_pos h, if_neg (by omega)]
  · rw [if_neg h]
    have := clip_mono (show x ≤ y by omega) n
    split
    · rfl
    · rw [show clipN x n = clipN y n by omega]; omega
set_option maxRecDepth 100000 in
set_option maxHeartbeats 4000000 in
theorem rrange_t {B : Nat} {w : World} {b n : Nat} {v : Value} {C : Nat → Int} (h : RA B w b n v C) (x y : Int) :
    Calls Try.prog 30 #[.pointer (some ⟨b, 0, none⟩), .int .i64 x, .int .i64 y] w fun e w' => e = .returned (.int .i64 (rngV C n x y)) ∧ w = w' := by
  have hp := upR'
  have V := hide (rvalid_m h)
  have H := hide h
  have R := hide h.row
  obtain ⟨p, c, rfl⟩ := row_slice h.row
  obtain ⟨c0, c1⟩ : w.cell? ⟨b, 0, none⟩ = some (.bool true) ∧ w.cell? ⟨b, 1, none⟩ = some (.slice p n c) := by simp [cell_of_blk h.blk]
  rw [rngV_clip]
  have CX := hide (clip_r x n)
  have CY := hide (clip_r y n)
  have LX := hide (clip_le x n)
  have LY := hide (clip_le y n)
  have hn := h.hn
  generalize clipN x n = A at *
  generalize clipN y n = D at *
  obtain ⟨Z, hZ⟩ : ∃ Z, Z = if A < D then sumS C D - sumS C A else 0 := ⟨_, rfl⟩
  rw [← hZ]
  have HZ := hide hZ
  clear h hZ
  go_enter Try.func30, Try.ntmps30
  go_wp2_with fail
  refine V.out.mono ?_
  rintro e w' ⟨rfl, rfl⟩
  go_wp2_with fail
  refine (CX.out _).mono ?_
  rintro e w' ⟨rfl, rfl⟩
  go_wp2_with fail
  go_loopw [7, 8] (fun s i wr => ∃ I : Nat, A ≤ I ∧ (I ≤ D ∨ I = A) ∧ s = .int .i64 (sumS C I - sumS C A) ∧ i = .int .i64 (I : Int) ∧ wr = w) (fun _ i _ => D - (intOf i).toNat)
  case atStart => exact ⟨A, Nat.le_refl _, .inr rfl, by rw [Int.sub_self], rfl, rfl⟩
  case round =>
    obtain ⟨I, hA, hI, rfl, rfl, rfl⟩ := hrel
    by_cases hlt : I < D
    · have dk : decide (I < D) = true := by simpa using hlt
      have dk' : decide ((I : Int) < (D : Int)) = true := by simpa using hlt
      have hin : I < n := by have := LY.out; omega
      have bI : (I : Int) < (n : Int) := by omega
      have wI : IntKind.i64.wrap ((I : Int) + 1) = (I : Int) + 1 := by rw [IntKind.wrap_i64]; omega
      obtain ⟨g, rfl, e1, f1, _⟩ := row_cell R.out hin
      rw [rowV_get _ hin, cV] at e1
      have sI : sumS C (I + 1) = sumS C I + C I := rfl
      have m1 := sumS_mono H.out.nn hA
      have m2 := H.out.sum_bd (show I + 1 ≤ n by omega)
      have m3 := H.out.sum_bd (show A ≤ n from LX.out)
      have m4 := H.out.nn I
      have HS := hide (show sumS C I - sumS C A + C I = sumS C (I + 1) - sumS C A by omega)
      have ws : IntKind.i64.wrap (sumS C I - sumS C A + C I) = sumS C (I + 1) - sumS C A := by rw [IntKind.wrap_i64]; omega
      have ws' : wrap64 (sumS C I - sumS C A + C I) = sumS C (I + 1) - sumS C A := by unfold wrap64; omega
      have HLT := hide (And.intro hlt hA)
      clear hlt hA hI sI m1 m2 m3 m4
      go_wp2_with fail
      refine (CY.out _).mono ?_
      rintro e w' ⟨rfl, rfl⟩
      go_wp2_with fail
      go_roundw
      case rel => exact ⟨I + 1, by have := HLT.out; omega, by have := HLT.out; omega, by go_num, by go_num, trivial⟩
      case measure => have := HLT.out; simp [intOf]; omega
    · have dk : decide (I < D) = false := by simpa using hlt
      have dk' : decide ((I : Int) < (D : Int)) = false := by simp; omega
      have E := hide (show Z = sumS C I - sumS C A by
        rw [HZ.out]
        split
        · rw [show I = D by omega]
        · rw [show I = A by omega]; omega)
      clear hlt hA hI
      go_wp2_with fail
      refine (CY.out _).mono ?_
      rintro e w' ⟨rfl, rfl⟩
      go_wp2_with fail
      go_ret
      exact ⟨by rw [E.out]; rfl, rfl⟩
theorem rprefix_t {B : Nat} {w : World} {b n : Nat} {v : Value} {C : Nat → Int} (h : RA B w b n v C) (k : Int) :
    Calls Try.prog 29 #[.pointer (some ⟨b, 0, none⟩), .int .i64 k] w fun e w' => e = .returned (.int .i64 (sumS C (clipN k n))) ∧ w = w' := by
  have E : rngV C n 0 k = sumS C (clipN k n) := by
    have c0 : clipN 0 n = 0 := by unfold clipN; simp
    rw [rngV_clip, c0]
    split
    · rw [show sumS C 0 = 0 from rfl]; omega
    · rw [show clipN k n = 0 by omega]; rfl
  have R := hide (rrange_t h 0 k)
  rw [E] at R
  clear h E
  go_enter Try.func29, Try.ntmps29
  go_wp2_with fail
  refine R.out.mono ?_
  rintro e w' ⟨rfl, rfl⟩
  go_wp2_with fail
  go_ret
  exact ⟨rfl, rfl⟩
theorem rtotal_t {B : Nat} {w : World} {b n : Nat} {v : Value} {C : Nat → Int} (h : RA B w b n v C) :
    Calls Try.prog 31 #[.pointer (some ⟨b, 0, none⟩)] w fun e w' => e = .returned (.int .i64 (sumS C n)) ∧ w = w' := by
  have E : rngV C n 0 (n : Int) = sumS C n := by
    have := rngN (C := C) (Nat.zero_le n) (Nat.le_refl n)
    rw [show ((0 : Nat) : Int) = 0 from rfl] at this
    rw [this, show sumS C 0 = 0 from rfl]; omega
  have R := hide (rrange_t h 0 (n : Int))
  rw [E] at R
  have L := hide (rlen_t h)
  clear h E
  go_enter Try.func31, Try.ntmps31
  go_wp2_with fail
  refine L.out.mono ?_
  rintro e w' ⟨rfl, rfl⟩
  go_wp2_with fail
  refine R.out.mono ?_
  rintro e w' ⟨rfl, rfl⟩
  go_wp2_with fail
  go_ret
  exact ⟨rfl, rfl⟩
end Go.Proofs.Ytgcnccfmfnifbaa
