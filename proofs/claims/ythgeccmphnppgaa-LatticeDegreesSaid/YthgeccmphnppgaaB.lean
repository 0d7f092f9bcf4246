/- Grids: whether there is one; the next column or row; places. -/
import Derived.Test.YthgeccmphnppgaaA
set_option linter.unusedVariables false
set_option linter.unusedSimpArgs false
namespace Go.Proofs.Ythgeccmphnppgaa
open Go.RowKit

abbrev I64 (x : Int) : Prop := -9223372036854775808 ≤ x ∧ x ≤ 9223372036854775807
def gridP (w h : Int) : Prop := 1 ≤ w ∧ 1 ≤ h ∧ w * h ≤ 4096
theorem gridP.b {w h : Int} (g : gridP w h) : w ≤ 4096 ∧ h ≤ 4096 ∧ w ≤ w * h ∧ h ≤ w * h := by
  obtain ⟨h1, h2, h3⟩ := g
  have a : w * 1 ≤ w * h := Int.mul_le_mul_of_nonneg_left h2 (by omega)
  have b : 1 * h ≤ w * h := Int.mul_le_mul_of_nonneg_right h1 (by omega)
  omega
theorem quo_le {w h : Int} (h2 : 1 ≤ h) : w ≤ 4096 / h ↔ w * h ≤ 4096 := Int.le_ediv_iff_mul_le (by omega)
set_option maxHeartbeats 1000000 in
theorem isGrid_y (w h : Int) (g : gridP w h) (W : World) : Calls Try.prog 35 #[.int .i64 w, .int .i64 h] W fun e w' => e = .returned (.bool true) ∧ W = w' := by
  obtain ⟨h1, h2, h3⟩ := g
  have q := (quo_le (w := w) h2).2 h3
  have d3 : decide (w ≤ 4096 / h) = true := by simpa using q
  clear h3
  go_enter Try.func35, Try.ntmps35
  go_wp2_with fail
  go_ret
  exact ⟨rfl, rfl⟩
set_option maxHeartbeats 1000000 in
theorem isGrid_n (w h : Int) (g : ¬ gridP w h) (W : World) : Calls Try.prog 35 #[.int .i64 w, .int .i64 h] W fun e w' => e = .returned (.bool false) ∧ W = w' := by
  by_cases h1 : 1 ≤ w
  · by_cases h2 : 1 ≤ h
    · have q : ¬ w ≤ 4096 / h := fun q => g ⟨h1, h2, (quo_le h2).1 q⟩
      have d3 : decide (w ≤ 4096 / h) = false := by simpa using q
      clear g
      go_enter Try.func35, Try.ntmps35
      go_wp2_with fail
      go_ret
      exact ⟨by simp <;> omega, rfl⟩
    · clear g
      go_enter Try.func35, Try.ntmps35
      go_wp2_with fail
      go_ret
      exact ⟨by simp <;> omega, rfl⟩
  · clear g
    go_enter Try.func35, Try.ntmps35
    go_wp2_with fail
    go_ret
    exact ⟨by simp <;> omega, rfl⟩
set_option maxHeartbeats 1000000 in
theorem Grid_y (w h : Int) (g : gridP w h) (W : World) : Calls Try.prog 36 #[.int .i64 w, .int .i64 h] W fun e w' => e = .returned (.bool true) ∧ W = w' := by
  obtain ⟨b1, b2, b3, b4⟩ := g.b
  obtain ⟨h1, h2, h3⟩ := g
  have ww : IntKind.i64.wrap (w * h) = w * h := by rw [IntKind.wrap_i64]; omega
  have d3 : decide (w * h ≤ 4096) = true := by simpa using h3
  clear h3 b3 b4
  go_enter Try.func36, Try.ntmps36
  go_wp2_with fail
  go_ret
  exact ⟨rfl, rfl⟩
set_option maxHeartbeats 1000000 in
theorem Grid_n (w h : Int) (g : ¬ gridP w h) (W : World) : Calls Try.prog 36 #[.int .i64 w, .int .i64 h] W fun e w' => e = .returned (.bool false) ∧ W = w' := by
  by_cases h1 : 1 ≤ w
  · by_cases h2 : 1 ≤ h
    · by_cases h3 : w ≤ 4096
      · by_cases h4 : h ≤ 4096
        · have q : ¬ w * h ≤ 4096 := fun q => g ⟨h1, h2, q⟩
          have u1 : w * h ≤ 4096 * h := Int.mul_le_mul_of_nonneg_right h3 (by omega)
          have ww : IntKind.i64.wrap (w * h) = w * h := by rw [IntKind.wrap_i64]; omega
          have d3 : decide (w * h ≤ 4096) = false := by simpa using q
          clear g q u1
          go_enter Try.func36, Try.ntmps36
          go_wp2_with fail
          go_ret
          exact ⟨by simp <;> omega, rfl⟩
        · clear g
          go_enter Try.func36, Try.ntmps36
          go_wp2_with fail
          go_ret
          exact ⟨by simp <;> omega, rfl⟩
      · clear g
        go_enter Try.func36, Try.ntmps36
        go_wp2_with fail
        go_ret
        exact ⟨by simp <;> omega, rfl⟩
    · clear g
      go_enter Try.func36, Try.ntmps36
      go_wp2_with fail
      go_ret
      exact ⟨by simp <;> omega, rfl⟩
  · clear g
    go_enter Try.func36, Try.ntmps36
    go_wp2_with fail
    go_ret
    exact ⟨by simp <;> omega, rfl⟩
/-- what At answers -/
noncomputable def atV (w h x y : Int) : Value := @ite _ (gridP w h) (Classical.propDecidable _) (if 0 ≤ x ∧ x < w ∧ 0 ≤ y ∧ y < h then .tuple #[.int .i64 (y * w + x), .int .i64 0] else .tuple #[.int .i64 0, .int .i64 3]) (.tuple #[.int .i64 0, .int .i64 2])
theorem at_lt {w h x y : Int} (g : gridP w h) (hx : 0 ≤ x ∧ x < w) (hy : 0 ≤ y ∧ y < h) : 0 ≤ y * w ∧ 0 ≤ y * w + x ∧ y * w + x < w * h := by
  have a : (y + 1) * w ≤ h * w := Int.mul_le_mul_of_nonneg_right (by omega) (by have := g.1; omega)
  have b : 0 ≤ y * w := Int.mul_nonneg hy.1 (by omega)
  rw [Int.add_mul, Int.one_mul] at a
  rw [Int.mul_comm w h]
  omega
set_option maxHeartbeats 4000000 in
theorem at_24 (w h x y : Int) (W : World) : Calls Try.prog 24 #[.int .i64 w, .int .i64 h, .int .i64 x, .int .i64 y] W fun e w' => e = .returned (atV w h x y) ∧ W = w' := by
  by_cases g : gridP w h
  · have G := isGrid_y w h g W
    unfold atV
    rw [if_pos g]
    obtain ⟨b1, b2, b3, b4⟩ := g.b
    have g1 := g.1
    have g2 := g.2.1
    by_cases hx0 : 0 ≤ x
    · by_cases hx1 : x < w
      · by_cases hy0 : 0 ≤ y
        · by_cases hy1 : y < h
          · rw [if_pos ⟨hx0, hx1, hy0, hy1⟩]
            obtain ⟨l1, l2, l3⟩ := at_lt g ⟨hx0, hx1⟩ ⟨hy0, hy1⟩
            have g3 := g.2.2
            have w1 : IntKind.i64.wrap (y * w) = y * w := by rw [IntKind.wrap_i64]; omega
            have w2 : IntKind.i64.wrap (y * w + x) = y * w + x := by rw [IntKind.wrap_i64]; omega
            clear g b3 b4 l1 l2 l3 g3
            go_enter Try.func24, Try.ntmps24
            go_wp2_with (go_at_call 35; refine G.mono ?_; rintro e w' ⟨rfl, rfl⟩)
            go_ret2
            exact ⟨rfl, rfl⟩
          · rw [if_neg (fun hh => hy1 hh.2.2.2)]
            clear g b3 b4
            go_enter Try.func24, Try.ntmps24
            go_wp2_with (go_at_call 35; refine G.mono ?_; rintro e w' ⟨rfl, rfl⟩)
            go_ret2
            exact ⟨rfl, rfl⟩
        · rw [if_neg (fun hh => hy0 hh.2.2.1)]
          clear g b3 b4
          go_enter Try.func24, Try.ntmps24
          go_wp2_with (go_at_call 35; refine G.mono ?_; rintro e w' ⟨rfl, rfl⟩)
          go_ret2
          exact ⟨rfl, rfl⟩
      · rw [if_neg (fun hh => hx1 hh.2.1)]
        clear g b3 b4
        go_enter Try.func24, Try.ntmps24
        go_wp2_with (go_at_call 35; refine G.mono ?_; rintro e w' ⟨rfl, rfl⟩)
        go_ret2
        exact ⟨rfl, rfl⟩
    · rw [if_neg (fun hh => hx0 hh.1)]
      clear g b3 b4
      go_enter Try.func24, Try.ntmps24
      go_wp2_with (go_at_call 35; refine G.mono ?_; rintro e w' ⟨rfl, rfl⟩)
      go_ret2
      exact ⟨rfl, rfl⟩
  · have G := isGrid_n w h g W
    unfold atV
    rw [if_neg g]
    clear g
    go_enter Try.func24, Try.ntmps24
    go_wp2_with (go_at_call 35; refine G.mono ?_; rintro e w' ⟨rfl, rfl⟩)
    go_ret2
    exact ⟨rfl, rfl⟩
set_option maxHeartbeats 4000000 in
theorem at_25 (w h x y : Int) (W : World) : Calls Try.prog 25 #[.int .i64 w, .int .i64 h, .int .i64 x, .int .i64 y] W fun e w' => e = .returned (atV w h x y) ∧ W = w' := by
  by_cases g : gridP w h
  · have G := Grid_y w h g W
    unfold atV
    rw [if_pos g]
    obtain ⟨b1, b2, b3, b4⟩ := g.b
    have g1 := g.1
    have g2 := g.2.1
    by_cases hx0 : 0 ≤ x
    · by_cases hx1 : x < w
      · by_cases hy0 : 0 ≤ y
        · by_cases hy1 : y < h
          · rw [if_pos ⟨hx0, hx1, hy0, hy1⟩]
            obtain ⟨l1, l2, l3⟩ := at_lt g ⟨hx0, hx1⟩ ⟨hy0, hy1⟩
            have g3 := g.2.2
            have w1 : IntKind.i64.wrap (y * w) = y * w := by rw [IntKind.wrap_i64]; omega
            have w2 : IntKind.i64.wrap (y * w + x) = y * w + x := by rw [IntKind.wrap_i64]; omega
            clear g b3 b4 l1 l2 l3 g3
            go_enter Try.func25, Try.ntmps25
            go_wp2_with (go_at_call 36; refine G.mono ?_; rintro e w' ⟨rfl, rfl⟩)
            go_ret2
            exact ⟨rfl, rfl⟩
          · rw [if_neg (fun hh => hy1 hh.2.2.2)]
            clear g b3 b4
            go_enter Try.func25, Try.ntmps25
            go_wp2_with (go_at_call 36; refine G.mono ?_; rintro e w' ⟨rfl, rfl⟩)
            go_ret2
            exact ⟨rfl, rfl⟩
        · rw [if_neg (fun hh => hy0 hh.2.2.1)]
          clear g b3 b4
          go_enter Try.func25, Try.ntmps25
          go_wp2_with (go_at_call 36; refine G.mono ?_; rintro e w' ⟨rfl, rfl⟩)
          go_ret2
          exact ⟨rfl, rfl⟩
      · rw [if_neg (fun hh => hx1 hh.2.1)]
        clear g b3 b4
        go_enter Try.func25, Try.ntmps25
        go_wp2_with (go_at_call 36; refine G.mono ?_; rintro e w' ⟨rfl, rfl⟩)
        go_ret2
        exact ⟨rfl, rfl⟩
    · rw [if_neg (fun hh => hx0 hh.1)]
      clear g b3 b4
      go_enter Try.func25, Try.ntmps25
      go_wp2_with (go_at_call 36; refine G.mono ?_; rintro e w' ⟨rfl, rfl⟩)
      go_ret2
      exact ⟨rfl, rfl⟩
  · have G := Grid_n w h g W
    unfold atV
    rw [if_neg g]
    clear g
    go_enter Try.func25, Try.ntmps25
    go_wp2_with (go_at_call 36; refine G.mono ?_; rintro e w' ⟨rfl, rfl⟩)
    go_ret2
    exact ⟨rfl, rfl⟩
/-- what Place answers -/
noncomputable def plV (w h v : Int) : Value := @ite _ (gridP w h) (Classical.propDecidable _) (if 0 ≤ v ∧ v < w * h then .tuple #[.int .i64 (v % w), .int .i64 (v / w), .int .i64 0] else .tuple #[.int .i64 0, .int .i64 0, .int .i64 3]) (.tuple #[.int .i64 0, .int .i64 0, .int .i64 2])
set_option maxHeartbeats 4000000 in
theorem pl_26 (w h v : Int) (W : World) (hv : I64 v) : Calls Try.prog 26 #[.int .i64 w, .int .i64 h, .int .i64 v] W fun e w' => e = .returned (plV w h v) ∧ ∃ n, w' = W.drewN n := by
  by_cases g : gridP w h
  · have G := isGrid_y w h g W
    unfold plV
    rw [if_pos g]
    obtain ⟨b1, b2, b3, b4⟩ := g.b
    have g1 := g.1
    have g2 := g.2.1
    have g3 := g.2.2
    have ww : IntKind.i64.wrap (w * h) = w * h := by rw [IntKind.wrap_i64]; omega
    by_cases hv0 : 0 ≤ v
    · by_cases hv1 : v < w * h
      · rw [if_pos ⟨hv0, hv1⟩]
        have dv : decide (v < w * h) = true := by simpa using hv1
        have dv2 : decide (w * h ≤ v) = false := by simp; omega
        have hw0 : (w == 0) = false := by simp; omega
        have wq : IntKind.i64.wrap (v.tdiv w) = v / w := by
          rw [Int.tdiv_eq_ediv_of_nonneg hv0, IntKind.wrap_i64]
          have a := Int.ediv_nonneg hv0 (show 0 ≤ w by omega)
          have b := Int.ediv_le_self w hv0
          omega
        have wr : IntKind.i64.wrap (v.tmod w) = v % w := by
          rw [Int.tmod_eq_emod_of_nonneg hv0, IntKind.wrap_i64]
          have a := Int.emod_nonneg v (show w ≠ 0 by omega)
          have b := Int.emod_lt_of_pos v (show 0 < w by omega)
          omega
        clear g b3 b4 g3
        go_enter Try.func26, Try.ntmps26
        go_wp2_with (go_at_call 35; refine G.mono ?_; rintro e w' ⟨rfl, rfl⟩)
        go_quiet (fail)
        go_wp2_with fail
        go_ret3
        exact ⟨rfl, _, rfl⟩
      · rw [if_neg (fun hh => hv1 hh.2)]
        have dv : decide (v < w * h) = false := by simpa using hv1
        have dv2 : decide (w * h ≤ v) = true := by simp; omega
        clear g b3 b4 g3 hv1
        go_enter Try.func26, Try.ntmps26
        go_wp2_with (go_at_call 35; refine G.mono ?_; rintro e w' ⟨rfl, rfl⟩)
        go_ret3
        exact ⟨rfl, 0, rfl⟩
    · rw [if_neg (fun hh => hv0 hh.1)]
      clear g b3 b4 g3
      go_enter Try.func26, Try.ntmps26
      go_wp2_with (go_at_call 35; refine G.mono ?_; rintro e w' ⟨rfl, rfl⟩)
      go_ret3
      exact ⟨rfl, 0, rfl⟩
  · have G := isGrid_n w h g W
    unfold plV
    rw [if_neg g]
    clear g
    go_enter Try.func26, Try.ntmps26
    go_wp2_with (go_at_call 35; refine G.mono ?_; rintro e w' ⟨rfl, rfl⟩)
    go_ret3
    exact ⟨rfl, 0, rfl⟩
set_option maxHeartbeats 4000000 in
theorem pl_27 (w h v : Int) (W : World) (hv : I64 v) : Calls Try.prog 27 #[.int .i64 w, .int .i64 h, .int .i64 v] W fun e w' => e = .returned (plV w h v) ∧ ∃ n, w' = W.drewN n := by
  by_cases g : gridP w h
  · have G := Grid_y w h g W
    unfold plV
    rw [if_pos g]
    obtain ⟨b1, b2, b3, b4⟩ := g.b
    have g1 := g.1
    have g2 := g.2.1
    have g3 := g.2.2
    have ww : IntKind.i64.wrap (w * h) = w * h := by rw [IntKind.wrap_i64]; omega
    by_cases hv0 : 0 ≤ v
    · by_cases hv1 : v < w * h
      · rw [if_pos ⟨hv0, hv1⟩]
        have dv : decide (v < w * h) = true := by simpa using hv1
        have dv2 : decide (w * h ≤ v) = false := by simp; omega
        have hw0 : (w == 0) = false := by simp; omega
        have wq : IntKind.i64.wrap (v.tdiv w) = v / w := by
          rw [Int.tdiv_eq_ediv_of_nonneg hv0, IntKind.wrap_i64]
          have a := Int.ediv_nonneg hv0 (show 0 ≤ w by omega)
          have b := Int.ediv_le_self w hv0
          omega
        have wr : IntKind.i64.wrap (v.tmod w) = v % w := by
          rw [Int.tmod_eq_emod_of_nonneg hv0, IntKind.wrap_i64]
          have a := Int.emod_nonneg v (show w ≠ 0 by omega)
          have b := Int.emod_lt_of_pos v (show 0 < w by omega)
          omega
        clear g b3 b4 g3
        go_enter Try.func27, Try.ntmps27
        go_wp2_with (go_at_call 36; refine G.mono ?_; rintro e w' ⟨rfl, rfl⟩)
        go_quiet (fail)
        go_wp2_with fail
        go_ret3
        exact ⟨rfl, _, rfl⟩
      · rw [if_neg (fun hh => hv1 hh.2)]
        have dv : decide (v < w * h) = false := by simpa using hv1
        have dv2 : decide (w * h ≤ v) = true := by simp; omega
        clear g b3 b4 g3 hv1
        go_enter Try.func27, Try.ntmps27
        go_wp2_with (go_at_call 36; refine G.mono ?_; rintro e w' ⟨rfl, rfl⟩)
        go_ret3
        exact ⟨rfl, 0, rfl⟩
    · rw [if_neg (fun hh => hv0 hh.1)]
      clear g b3 b4 g3
      go_enter Try.func27, Try.ntmps27
      go_wp2_with (go_at_call 36; refine G.mono ?_; rintro e w' ⟨rfl, rfl⟩)
      go_ret3
      exact ⟨rfl, 0, rfl⟩
  · have G := Grid_n w h g W
    unfold plV
    rw [if_neg g]
    clear g
    go_enter Try.func27, Try.ntmps27
    go_wp2_with (go_at_call 36; refine G.mono ?_; rintro e w' ⟨rfl, rfl⟩)
    go_ret3
    exact ⟨rfl, 0, rfl⟩
end Go.Proofs.Ythgeccmphnppgaa
