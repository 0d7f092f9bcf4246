/- The specification's Find, New; its readers on nil. -/
import Derived.Test.YtgcnccfmfnifbaaFT
set_option linter.unusedVariables false
set_option linter.unusedSimpArgs false
namespace Go.Proofs.Ytgcnccfmfnifbaa
open Go.RowKit

set_option maxRecDepth 100000 in
set_option maxHeartbeats 4000000 in
theorem rfind_t {B : Nat} {w : World} {b n : Nat} {v : Value} {C : Nat → Int} (h : RA B w b n v C) (x : Int) (hx : x ≤ 9223372036854775807) :
    Calls Try.prog 27 #[.pointer (some ⟨b, 0, none⟩), .int .i64 x] w fun e w' => FindA C n x e ∧ w = w' := by
  have hp := upR'
  have V := hide (rvalid_m h)
  have H := hide h
  have R := hide h.row
  obtain ⟨p, c, rfl⟩ := row_slice h.row
  obtain ⟨c0, c1⟩ : w.cell? ⟨b, 0, none⟩ = some (.bool true) ∧ w.cell? ⟨b, 1, none⟩ = some (.slice p n c) := by simp [cell_of_blk h.blk]
  have hn := h.hn
  have HX := hide hx
  clear h hx
  by_cases h1 : x < 0
  · have F := hide (show FindA C n x (.returned (.tuple #[.int .i64 0, .bool false])) from .inr ⟨by omega, rfl⟩)
    have d : decide (x < 0) = true := by simpa using h1
    clear h1
    go_enter Try.func27, Try.ntmps27
    go_wp2_with fail
    refine V.out.mono ?_
    rintro e w' ⟨rfl, rfl⟩
    go_wp2_with fail
    go_ret2
    exact ⟨F.out, rfl⟩
  · have d : decide (x < 0) = false := by simpa using h1
    have HX0 := hide (show 0 ≤ x by omega)
    clear h1
    go_enter Try.func27, Try.ntmps27
    go_wp2_with fail
    refine V.out.mono ?_
    rintro e w' ⟨rfl, rfl⟩
    go_wp2_with fail
    go_loopw [1, 6] (fun z i wr => ∃ I : Nat, I ≤ n ∧ z = .int .i64 (x - sumS C I) ∧ i = .int .i64 (I : Int) ∧ Hid (sumS C I ≤ x) ∧ wr = w) (fun _ i _ => n - (intOf i).toNat)
    case atStart => exact ⟨0, Nat.zero_le _, by rw [show sumS C 0 = 0 from rfl, Int.sub_zero], rfl, HX0, rfl⟩
    case round =>
      obtain ⟨I, hI, rfl, rfl, hS, rfl⟩ := hrel
      by_cases hlt : I < n
      · have dk : decide (I < n) = true := by simpa using hlt
        have dk' : decide ((I : Int) < (n : Int)) = true := by simpa using hlt
        have bI : (I : Int) < (n : Int) := by omega
        have wI : IntKind.i64.wrap ((I : Int) + 1) = (I : Int) + 1 := by rw [IntKind.wrap_i64]; omega
        obtain ⟨g, rfl, e1, f1, _⟩ := row_cell R.out hlt
        rw [rowV_get _ hlt, cV] at e1
        have sI : sumS C (I + 1) = sumS C I + C I := rfl
        have HLT := hide hlt
        by_cases hy : x - sumS C I < C I
        · have dy : decide (x - sumS C I < C I) = true := by simpa using hy
          have F := hide (show FindA C n x (.returned (.tuple #[.int .i64 (I : Int), .bool true])) from .inl ⟨HX0.out, by have := H.out.sum_bd (show I + 1 ≤ n by omega); omega, I, hlt, hS.out, by omega, rfl⟩)
          clear hlt hI hy sI
          go_wp2_with fail
          go_ret2
          exact ⟨F.out, rfl⟩
        · have dy : decide (x - sumS C I < C I) = false := by simpa using hy
          have hS' := hide (show sumS C (I + 1) ≤ x by omega)
          have m1 := H.out.sum_bd (show I + 1 ≤ n by omega)
          have m2 := H.out.sum_bd hI
          have m3 := HX.out
          have m4 := HX0.out
          have ws : IntKind.i64.wrap (x - sumS C I - C I) = x - sumS C (I + 1) := by have := hS'.out; rw [IntKind.wrap_i64]; omega
          have ws' : wrap64 (x - sumS C I - C I) = x - sumS C (I + 1) := by have := hS'.out; unfold wrap64; omega
          clear hlt hI hy sI m1 m2 m3 m4
          go_wp2_with fail
          go_roundw
          case rel => exact ⟨I + 1, by have := HLT.out; omega, by go_num, by go_num, hS', trivial⟩
          case measure => have := HLT.out; simp [intOf]; omega
      · have dk : decide (I < n) = false := by simpa using hlt
        have dk' : decide ((I : Int) < (n : Int)) = false := by simp; omega
        have F := hide (show FindA C n x (.returned (.tuple #[.int .i64 0, .bool false])) from .inr ⟨by have := hS.out; rw [show I = n by omega] at this; omega, rfl⟩)
        clear hlt hI
        go_wp2_with fail
        go_ret2
        exact ⟨F.out, rfl⟩
theorem build_R (p : Option Addr) (n c : Nat) (w : World) : (Instr.build 65 #[(0, .bool true), (1, .slice p n c)]).run Try.prog w = .ok (.agg #[.bool true, .slice p n c]) w := by kernel_rfl
set_option maxRecDepth 100000 in
set_option maxHeartbeats 4000000 in
theorem rnew_t (n : Nat) (hn : n ≤ 65536) (w : World) :
    Calls Try.prog 13 #[.int .i64 (n : Int)] w fun e w' => ∃ b v, e = .returned (.tuple #[.pointer (some ⟨b, 0, none⟩), .int .i64 0]) ∧ RA w.heap.size w' b n v (fun _ => 0) ∧ Kp [] w w' := by
  have hm : ∀ w : World, (Instr.makeSlice 39 (.int .i64 (n : Int)) (.int .i64 (n : Int))).run Try.prog w = .ok (.slice (some ⟨w.heap.size, 0, none⟩) n n) (w.alloc (.cells (madeCells #[.int .i64 0] n) 2)) :=
    fun w => run_make_row' 39 2 (.int .i64 0) 8 Try.underlying39 infoI rfl .i64 .i64 n (by omega) (by omega) w
  have hb := build_R (some ⟨w.heap.size, 0, none⟩) n n
  have R := made_full w (Nat.le_refl _) n (by unfold maxLen; omega) (.int .i64 0) 2
  have k1 := Kp.alloc w (.cells (madeCells #[.int .i64 0] n) 2)
  have k2 := Kp.alloc (w.alloc (.cells (madeCells #[.int .i64 0] n) 2)) (.cells #[.bool true, .slice (some ⟨w.heap.size, 0, none⟩) n n] 65)
  have b2 := heap_alloc_new (w.alloc (.cells (madeCells #[.int .i64 0] n) 2)) (.cells #[.bool true, .slice (some ⟨w.heap.size, 0, none⟩) n n] 65)
  rw [World.size_alloc] at b2
  have F := hide (show RA w.heap.size ((w.alloc (.cells (madeCells #[.int .i64 0] n) 2)).alloc (.cells #[.bool true, .slice (some ⟨w.heap.size, 0, none⟩) n n] 65)) (w.heap.size + 1) n (.slice (some ⟨w.heap.size, 0, none⟩) n n) (fun _ => 0) from
    ⟨b2, k2.row R (by simp), fun k hk => by simp [Value.ownBlock] at hk; omega, by omega, fun _ => Int.le_refl _, fun _ _ => rfl, by rw [sumS_zero]; decide, hn⟩)
  have K := hide (k1.trans0 k2)
  have d1 : decide ((n : Int) < 0) = false := by simp
  have d2 : decide ((65536 : Int) < (n : Int)) = false := by simp; omega
  clear R k1 k2 b2 hn
  go_enter Try.func13, Try.ntmps13
  go_wp2_with fail
  go_ret2
  exact ⟨_, _, rfl, F.out, K.out⟩
set_option maxHeartbeats 4000000 in
theorem rnew_no (z : Int) (hz : ¬ (0 ≤ z ∧ z ≤ 65536)) (w : World) :
    Calls Try.prog 13 #[.int .i64 z] w fun e w' => e = .returned (.tuple #[.pointer none, .int .i64 2]) ∧ w = w' := by
  by_cases h1 : z < 0
  · have d1 : decide (z < 0) = true := by simpa using h1
    clear hz h1
    go_enter Try.func13, Try.ntmps13
    go_wp2_with fail
    go_ret2
    exact ⟨rfl, rfl⟩
  · have d1 : decide (z < 0) = false := by simpa using h1
    have d2 : decide ((65536 : Int) < z) = true := by simp; omega
    clear hz h1
    go_enter Try.func13, Try.ntmps13
    go_wp2_with fail
    go_ret2
    exact ⟨rfl, rfl⟩
theorem rvalid_n (w : World) : Calls Try.prog 36 #[.pointer none] w fun e w' => e = .returned (.bool false) ∧ w = w' := by
  go_enter Try.func36, Try.ntmps36
  go_wp2_with fail
  go_ret
  exact ⟨rfl, rfl⟩
theorem rlen_n (w : World) : Calls Try.prog 32 #[.pointer none] w fun e w' => e = .returned (.int .i64 0) ∧ w = w' := by
  have v0 := rvalid_n w
  go_enter Try.func32, Try.ntmps32
  go_wp2_with fail
  refine v0.mono ?_
  rintro e w' ⟨rfl, rfl⟩
  go_wp2_with fail
  go_ret
  exact ⟨rfl, rfl⟩
theorem rget_n (w : World) (i : Int) : Calls Try.prog 28 #[.pointer none, .int .i64 i] w fun e w' => e = .returned (.int .i64 0) ∧ w = w' := by
  have v0 := rvalid_n w
  go_enter Try.func28, Try.ntmps28
  go_wp2_with fail
  refine v0.mono ?_
  rintro e w' ⟨rfl, rfl⟩
  go_wp2_with fail
  go_ret
  exact ⟨rfl, rfl⟩
theorem rrange_n (w : World) (x y : Int) : Calls Try.prog 30 #[.pointer none, .int .i64 x, .int .i64 y] w fun e w' => e = .returned (.int .i64 0) ∧ w = w' := by
  have v0 := rvalid_n w
  go_enter Try.func30, Try.ntmps30
  go_wp2_with fail
  refine v0.mono ?_
  rintro e w' ⟨rfl, rfl⟩
  go_wp2_with fail
  go_ret
  exact ⟨rfl, rfl⟩
theorem rprefix_n (w : World) (k : Int) : Calls Try.prog 29 #[.pointer none, .int .i64 k] w fun e w' => e = .returned (.int .i64 0) ∧ w = w' := by
  have v0 := rrange_n w 0 k
  go_enter Try.func29, Try.ntmps29
  go_wp2_with fail
  refine v0.mono ?_
  rintro e w' ⟨rfl, rfl⟩
  go_wp2_with fail
  go_ret
  exact ⟨rfl, rfl⟩
theorem rtotal_n (w : World) : Calls Try.prog 31 #[.pointer none] w fun e w' => e = .returned (.int .i64 0) ∧ w = w' := by
  have v0 := rrange_n w 0 0
  have l0 := rlen_n w
  go_enter Try.func31, Try.ntmps31
  go_wp2_with fail
  refine l0.mono ?_
  rintro e w' ⟨rfl, rfl⟩
  go_wp2_with fail
  refine v0.mono ?_
  rintro e w' ⟨rfl, rfl⟩
  go_wp2_with fail
  go_ret
  exact ⟨rfl, rfl⟩
theorem rfind_n (w : World) (x : Int) : Calls Try.prog 27 #[.pointer none, .int .i64 x] w fun e w' => e = .returned (.tuple #[.int .i64 0, .bool false]) ∧ w = w' := by
  have v0 := rvalid_n w
  go_enter Try.func27, Try.ntmps27
  go_wp2_with fail
  refine v0.mono ?_
  rintro e w' ⟨rfl, rfl⟩
  go_wp2_with fail
  go_ret2
  exact ⟨rfl, rfl⟩
end Go.Proofs.Ytgcnccfmfnifbaa
