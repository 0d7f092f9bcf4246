/- Add in one form; New, Copy. -/
import Derived.Test.YtgcnccfmfnifbaaFQ
set_option linter.unusedVariables false
set_option linter.unusedSimpArgs false
namespace Go.Proofs.Ytgcnccfmfnifbaa
open Go.RowKit

def addE (C : Nat → Int) (n : Nat) (i d : Int) : Int := if 0 ≤ i ∧ i < (n : Int) then (if C i.toNat + d < 0 then 2 else if sumS C n + d ≤ 9223372036854775807 then 0 else 7) else 3
def addC (C : Nat → Int) (n : Nat) (i d : Int) : Nat → Int := if addE C n i d = 0 then updC C i.toNat (C i.toNat + d) else C
theorem add_t {B : Nat} {w : World} {b n : Nat} {own : List Nat} {C : Nat → Int} (h : FAt B w b n own C) (i d : Int) (hd : I64 d) (hB : B ≤ w.heap.size) :
    Calls Try.prog 16 #[.pointer (some ⟨b, 0, none⟩), .int .i64 i, .int .i64 d] w fun e w' => e = .returned (.int .i64 (addE C n i d)) ∧ FAt B w' b n own (addC C n i d) ∧ Kp own w w' := by
  by_cases h1 : 0 ≤ i ∧ i < (n : Int)
  · obtain ⟨j, rfl⟩ : ∃ j : Nat, i = (j : Int) := ⟨i.toNat, by omega⟩
    have hj : j < n := by omega
    have e0 : addE C n (j : Int) d = if C j + d < 0 then 2 else if sumS C n + d ≤ 9223372036854775807 then 0 else 7 := by unfold addE; rw [if_pos h1, Int.toNat_natCast]
    by_cases h2 : C j + d < 0
    · have e1 : addE C n (j : Int) d = 2 := by rw [e0, if_pos h2]
      have e2 : addC C n (j : Int) d = C := by unfold addC; rw [e1]; rfl
      rw [e1, e2]
      refine (add_arg h j d hd hj h2).mono ?_
      rintro e w' ⟨rfl, k⟩
      exact ⟨rfl, h.keep0 k, k.mono (by simp)⟩
    · by_cases h3 : sumS C n + d ≤ 9223372036854775807
      · have e1 : addE C n (j : Int) d = 0 := by rw [e0, if_neg h2, if_pos h3]
        have e2 : addC C n (j : Int) d = updC C j (C j + d) := by unfold addC; rw [if_pos e1, Int.toNat_natCast]
        rw [e1, e2]
        exact add_ok' h j d hd hj (by omega) h3 hB
      · have e1 : addE C n (j : Int) d = 7 := by rw [e0, if_neg h2, if_neg h3]
        have e2 : addC C n (j : Int) d = C := by unfold addC; rw [e1]; rfl
        rw [e1, e2]
        refine (over_t h j d hd hj (by omega) (by omega)).mono ?_
        rintro e w' ⟨rfl, k⟩
        exact ⟨rfl, h.keep0 k, k.mono (by simp)⟩
  · have e1 : addE C n i d = 3 := by unfold addE; rw [if_neg h1]
    have e2 : addC C n i d = C := by unfold addC; rw [e1]; rfl
    rw [e1, e2]
    refine (add_range h i d h1).mono ?_
    rintro e w' ⟨rfl, k⟩
    exact ⟨rfl, h.keep0 k, k.mono (by simp)⟩
theorem infoI : (Try.prog.info? 2).map (fun i => (i.zero, i.size, i.bytes)) = some (some (.int .i64 0), 1, 8) := by kernel_rfl
theorem build_C (p : Option Addr) (n c : Nat) (w : World) : (Instr.build 41 #[(0, .bool true), (2, .slice p n c)]).run Try.prog w = .ok (.agg #[.bool true, .int .i64 0, .slice p n c]) w := by kernel_rfl
set_option maxRecDepth 100000 in
set_option maxHeartbeats 4000000 in
theorem new_t (n : Nat) (hn : n ≤ 65536) (w : World) :
    Calls Try.prog 12 #[.int .i64 (n : Int)] w fun e w' => e = .returned (.tuple #[.pointer (some ⟨w.heap.size + 1, 0, none⟩), .int .i64 0]) ∧ FAt w.heap.size w' (w.heap.size + 1) n [w.heap.size + 1, w.heap.size] (fun _ => 0) ∧ Kp [] w w' := by
  have hm : ∀ w : World, (Instr.makeSlice 39 (.int .i64 (n : Int)) (.int .i64 (n : Int))).run Try.prog w = .ok (.slice (some ⟨w.heap.size, 0, none⟩) n n) (w.alloc (.cells (madeCells #[.int .i64 0] n) 2)) :=
    fun w => run_make_row' 39 2 (.int .i64 0) 8 Try.underlying39 infoI rfl .i64 .i64 n (by omega) (by omega) w
  have hb := build_C (some ⟨w.heap.size, 0, none⟩) n n
  have R := made_full w (Nat.le_refl _) n (by unfold maxLen; omega) (.int .i64 0) 2
  rw [rowV_congr (g := trV (tr fun _ => 0)) (fun i _ => by unfold trV tr; rw [sumS_zero, sumS_zero]; rfl)] at R
  have k1 := Kp.alloc w (.cells (madeCells #[.int .i64 0] n) 2)
  have k2 := Kp.alloc (w.alloc (.cells (madeCells #[.int .i64 0] n) 2)) (.cells #[.bool true, .int .i64 0, .slice (some ⟨w.heap.size, 0, none⟩) n n] 41)
  have b2 := heap_alloc_new (w.alloc (.cells (madeCells #[.int .i64 0] n) 2)) (.cells #[.bool true, .int .i64 0, .slice (some ⟨w.heap.size, 0, none⟩) n n] 41)
  rw [World.size_alloc] at b2
  have F := hide (show FAt w.heap.size ((w.alloc (.cells (madeCells #[.int .i64 0] n) 2)).alloc (.cells #[.bool true, .int .i64 0, .slice (some ⟨w.heap.size, 0, none⟩) n n] 41)) (w.heap.size + 1) n [w.heap.size + 1, w.heap.size] (fun _ => 0) from
    ⟨⟨_, ⟨by rw [sumS_zero]; exact b2, k2.row R (by simp), fun k hk => by simp [Value.ownBlock] at hk; omega, by omega⟩, rfl⟩, fun _ => Int.le_refl _, fun _ _ => rfl, by rw [sumS_zero]; decide, hn⟩)
  have K := hide (k1.trans0 k2)
  have d1 : decide ((n : Int) < 0) = false := by simp
  have d2 : decide ((65536 : Int) < (n : Int)) = false := by simp; omega
  clear R k1 k2 b2 hn
  go_enter Try.func12, Try.ntmps12
  go_wp2_with fail
  go_ret2
  exact ⟨rfl, F.out, K.out⟩
set_option maxHeartbeats 4000000 in
theorem new_no (z : Int) (hz : ¬ (0 ≤ z ∧ z ≤ 65536)) (w : World) :
    Calls Try.prog 12 #[.int .i64 z] w fun e w' => e = .returned (.tuple #[.pointer none, .int .i64 2]) ∧ w = w' := by
  by_cases h1 : z < 0
  · have d1 : decide (z < 0) = true := by simpa using h1
    clear hz h1
    go_enter Try.func12, Try.ntmps12
    go_wp2_with fail
    go_ret2
    exact ⟨rfl, rfl⟩
  · have d1 : decide (z < 0) = false := by simpa using h1
    have d2 : decide ((65536 : Int) < z) = true := by simp; omega
    clear hz h1
    go_enter Try.func12, Try.ntmps12
    go_wp2_with fail
    go_ret2
    exact ⟨rfl, rfl⟩
end Go.Proofs.Ytgcnccfmfnifbaa
