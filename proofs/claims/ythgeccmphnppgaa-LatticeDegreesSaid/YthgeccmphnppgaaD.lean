/- The vertex beside another one. -/
import Derived.Test.YthgeccmphnppgaaC
set_option linter.unusedVariables false
set_option linter.unusedSimpArgs false
namespace Go.Proofs.Ythgeccmphnppgaa
open Go.RowKit

def ahd (at' s size : Nat) (c : Bool) : Nat × Bool := if at' + s < size then (at' + s, true) else (0, c && decide (3 ≤ size))
theorem ahd_lt {a s z : Nat} {c : Bool} (hz : 0 < z) : (ahd a s z c).1 < z := by
  unfold ahd
  split
  · assumption
  · exact hz
theorem ahead_t (a s z : Nat) (c : Bool) (h1 : a ≤ 4096) (h2 : s ≤ 1) (h3 : z ≤ 4096) (w : World) : Calls Try.prog 40 #[.int .i64 (a : Int), .int .i64 (s : Int), .int .i64 (z : Int), .bool c] w fun e w' => e = .returned (.tuple #[.int .i64 (((ahd a s z c).1 : Nat) : Int), .bool (ahd a s z c).2]) ∧ w' = w := by
  have ww : IntKind.i64.wrap ((a : Int) + (s : Int)) = ((a + s : Nat) : Int) := by rw [IntKind.wrap_i64]; omega
  unfold ahd
  by_cases h : a + s < z
  · rw [if_pos h]
    have d : decide (a + s < z) = true := by simpa using h
    clear h1 h2 h3
    go_enter Try.func40, Try.ntmps40
    go_wp2_with fail
    go_ret2
    exact ⟨rfl, rfl⟩
  · rw [if_neg h]
    have d : decide (a + s < z) = false := by simpa using h
    cases c
    · clear h1 h2 h3
      go_enter Try.func40, Try.ntmps40
      go_wp2_with fail
      go_ret2
      exact ⟨rfl, rfl⟩
    · by_cases h4 : 3 ≤ z
      · have d4 : decide ((3 : Int) ≤ (z : Int)) = true := by simp; omega
        clear h1 h2 h3
        go_enter Try.func40, Try.ntmps40
        go_wp2_with fail
        go_ret2
        exact ⟨by simp; try omega, rfl⟩
      · have d4 : decide ((3 : Int) ≤ (z : Int)) = false := by simp; omega
        clear h1 h2 h3
        go_enter Try.func40, Try.ntmps40
        go_wp2_with fail
        go_ret2
        exact ⟨by simp; try omega, rfl⟩
/-- what next answers -/
def nxt (a z : Nat) (c : Bool) : Int := if (ahd a 1 z c).2 = true then ((ahd a 1 z c).1 : Nat) else -1
theorem next_t (a z : Nat) (c : Bool) (h1 : a ≤ 4096) (h3 : z ≤ 4096) (w : World) : Calls Try.prog 41 #[.int .i64 (a : Int), .int .i64 (z : Int), .bool c] w fun e w' => e = .returned (.int .i64 (nxt a z c)) ∧ w' = w := by
  have ww : IntKind.i64.wrap ((a : Int) + 1) = ((a + 1 : Nat) : Int) := by rw [IntKind.wrap_i64]; omega
  by_cases h : a + 1 < z
  · have e : nxt a z c = ((a + 1 : Nat) : Int) := by unfold nxt ahd; rw [if_pos h]; rfl
    rw [e]
    have d : decide (a + 1 < z) = true := by simpa using h
    clear h1 h3 e
    go_enter Try.func41, Try.ntmps41
    go_wp2_with fail
    go_ret
    exact ⟨by simp, rfl⟩
  · have d : decide (a + 1 < z) = false := by simpa using h
    cases c
    · have e : nxt a z false = -1 := by unfold nxt ahd; rw [if_neg h]; rfl
      rw [e]
      clear h1 h3 e
      go_enter Try.func41, Try.ntmps41
      go_wp2_with fail
      go_ret
      exact ⟨by simp, rfl⟩
    · by_cases h4 : 3 ≤ z
      · have e : nxt a z true = 0 := by unfold nxt ahd; rw [if_neg h]; simp [h4]
        rw [e]
        have d4 : decide ((3 : Int) ≤ (z : Int)) = true := by simp; omega
        have d5 : decide (3 ≤ z) = true := by simp; omega
        clear h1 h3 e
        go_enter Try.func41, Try.ntmps41
        go_wp2_with fail
        go_ret
        exact ⟨by simp, rfl⟩
      · have e : nxt a z true = -1 := by unfold nxt ahd; rw [if_neg h]; simp [h4]
        rw [e]
        have d4 : decide ((3 : Int) ≤ (z : Int)) = false := by simp; omega
        have d5 : decide (3 ≤ z) = false := by simp; omega
        clear h1 h3 e
        go_enter Try.func41, Try.ntmps41
        go_wp2_with fail
        go_ret
        exact ⟨by simp, rfl⟩
theorem Below.drewN' {B : Nat} (w : World) (n : Nat) : Below B w (w.drewN n) := ⟨rfl, rfl, rfl, Nat.le_refl _, fun _ _ => rfl⟩
theorem wrapN {n : Nat} (h : n ≤ 1000000000000) : IntKind.i64.wrap (n : Int) = (n : Int) := by rw [IntKind.wrap_i64]; omega
set_option maxRecDepth 100000 in
set_option maxHeartbeats 4000000 in
theorem beside_t (w h v d0 d1 : Nat) (wx wy : Bool) (hw : 1 ≤ w) (hh : 1 ≤ h) (hwh : w * h ≤ 4096) (hv : v < w * h) (h0 : d0 ≤ 1) (h1 : d1 ≤ 1) (W : World) (pw px ph py : Nat)
    (cw : W.cell? ⟨pw, 0, none⟩ = some (.int .i64 (w : Int))) (cx : W.cell? ⟨px, 0, none⟩ = some (.bool wx)) (ch : W.cell? ⟨ph, 0, none⟩ = some (.int .i64 (h : Int))) (cy : W.cell? ⟨py, 0, none⟩ = some (.bool wy)) :
    Calls Try.prog 39 #[.int .i64 (v : Int), .agg #[.int .i64 (d0 : Int), .int .i64 (d1 : Int)], .pointer (some ⟨pw, 0, none⟩), .pointer (some ⟨px, 0, none⟩), .pointer (some ⟨ph, 0, none⟩), .pointer (some ⟨py, 0, none⟩)] W
      fun e w' => e = .returned (.tuple #[.int .i64 ((((ahd (v / w) d1 h wy).1 : Nat) : Int) * (w : Int) + (((ahd (v % w) d0 w wx).1 : Nat) : Int)), .bool ((ahd (v % w) d0 w wx).2 && (ahd (v / w) d1 h wy).2)]) ∧ Below W.heap.size W w' := by
  have bw : w ≤ 4096 := Nat.le_trans (Nat.le_mul_of_pos_right w hh) hwh
  have bh : h ≤ 4096 := Nat.le_trans (Nat.le_mul_of_pos_left h hw) hwh
  have hr : v % w < w := Nat.mod_lt _ hw
  have hq : v / w < h := by rw [Nat.div_lt_iff_lt_mul hw]; rw [Nat.mul_comm h w]; exact hv
  have wm : (v : Int).tmod (w : Int) = ((v % w : Nat) : Int) := by
    rw [Int.tmod_eq_emod_of_nonneg (by omega), ← Int.natCast_emod]
  have wd : (v : Int).tdiv (w : Int) = ((v / w : Nat) : Int) := by
    rw [Int.tdiv_eq_ediv_of_nonneg (by omega), ← Int.natCast_ediv]
  have wr0 : IntKind.i64.wrap ((v / w : Nat) : Int) = ((v / w : Nat) : Int) := wrapN (by omega)
  have A0 := fun W' => hide (ahead_t (v % w) d0 w wx (by omega) h0 bw W')
  have A1 := fun W' => hide (ahead_t (v / w) d1 h wy (by omega) h1 bh W')
  have l0 := ahd_lt (a := v % w) (s := d0) (z := w) (c := wx) hw
  have l1 := ahd_lt (a := v / w) (s := d1) (z := h) (c := wy) hh
  have hwz : ((w : Int) == 0) = false := by simp; omega
  generalize ahd (v % w) d0 w wx = x at *
  generalize ahd (v / w) d1 h wy = y at *
  obtain ⟨x1, x2⟩ := x
  obtain ⟨y1, y2⟩ := y
  simp only at l0 l1 ⊢
  have m1 : y1 * w ≤ 4096 * 4096 := Nat.mul_le_mul (by omega) bw
  have mb : 0 ≤ (y1 : Int) * (w : Int) ∧ (y1 : Int) * (w : Int) ≤ 16777216 := by rw [← Int.natCast_mul]; omega
  have xb : x1 ≤ 4096 := by omega
  obtain ⟨q, hq2⟩ : ∃ q, q = v % w := ⟨_, rfl⟩
  obtain ⟨r, hr2⟩ : ∃ r, r = v / w := ⟨_, rfl⟩
  rw [← hq2] at wm
  rw [← hr2] at wd wr0
  have AA0 : ∀ W', Hid (Calls Try.prog 40 #[.int .i64 (q : Int), .int .i64 (d0 : Int), .int .i64 (w : Int), .bool wx] W' fun e w' => e = .returned (.tuple #[.int .i64 (x1 : Int), .bool x2]) ∧ w' = W') := fun W' => by rw [hq2]; exact (A0 W').out
  have AA1 : ∀ W', Hid (Calls Try.prog 40 #[.int .i64 (r : Int), .int .i64 (d1 : Int), .int .i64 (h : Int), .bool wy] W' fun e w' => e = .returned (.tuple #[.int .i64 (y1 : Int), .bool y2]) ∧ w' = W') := fun W' => by rw [hr2]; exact (A1 W').out
  have bel : Below W.heap.size W (W.alloc (.cells #[.int .i64 (d0 : Int), .int .i64 (d1 : Int)] 56)) := (Below.refl _ _).alloc (Nat.le_refl _) _
  have cw1 := (bel.cell (p := ⟨pw, 0, none⟩) (block_lt_of_cell cw)).trans cw
  have cx1 := (bel.cell (p := ⟨px, 0, none⟩) (block_lt_of_cell cx)).trans cx
  have ch1 := (bel.cell (p := ⟨ph, 0, none⟩) (block_lt_of_cell ch)).trans ch
  have cy1 := (bel.cell (p := ⟨py, 0, none⟩) (block_lt_of_cell cy)).trans cy
  have cz : (W.alloc (.cells #[.int .i64 (d0 : Int), .int .i64 (d1 : Int)] 56)).cell? ⟨W.heap.size, 0, none⟩ = some (.int .i64 (d0 : Int)) ∧ (W.alloc (.cells #[.int .i64 (d0 : Int), .int .i64 (d1 : Int)] 56)).cell? ⟨W.heap.size, 1, none⟩ = some (.int .i64 (d1 : Int)) := by simp [go_sem]
  obtain ⟨cz0, cz1⟩ := cz
  have HB := hide bel
  have hw1 : (1 : Int) ≤ (w : Int) := by omega
  have hwn : w ≠ 0 := by omega
  clear A0 A1 hr hq hq2 hr2 hv hwh m1 l0 l1 bw bh h0 h1 hw hh cw cx ch cy bel
  go_enter Try.func39, Try.ntmps39
  go_wp2_with fail
  generalize W.alloc (.cells #[.int .i64 (d0 : Int), .int .i64 (d1 : Int)] 56) = W1 at *
  go_quiet ((go_at_call 40; exact Calls.quiet_of_same (AA0 _).out))
  go_wp2_with fail
  generalize hW2 : W1.drewN nq = W2
  have K2 : Kp [] W1 W2 := by rw [← hW2]; exact Kp.drewN _ _ _
  have e0 : ∀ a : Addr, W2.cell? a = W1.cell? a := fun a => by rw [← hW2]; rfl
  have cw2 := (e0 ⟨pw, 0, none⟩).trans cw1
  have ch2 := (e0 ⟨ph, 0, none⟩).trans ch1
  have cy2 := (e0 ⟨py, 0, none⟩).trans cy1
  have cz2 := (e0 ⟨W.heap.size, 1, none⟩).trans cz1
  clear e0 hW2 cw1 cx1 ch1 cy1 cz0 cz1
  go_quiet ((go_at_call 40; exact Calls.quiet_of_same (AA1 _).out))
  go_wp2_with fail
  all_goals
    go_ret2
    exact ⟨by first | (simp; done) | (simp [*]; done) | (simp; intro hx; first | assumption | contradiction), (HB.out.trans (K2.below (B := W.heap.size) (by simp) (by have := HB.out.size; omega))).trans (Below.drewN' _ _)⟩
end Go.Proofs.Ythgeccmphnppgaa
