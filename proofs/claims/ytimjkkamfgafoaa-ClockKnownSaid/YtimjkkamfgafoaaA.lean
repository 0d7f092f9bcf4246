/- Clocks in memory, and what the code's methods answer. -/
import Derived.Test.YtimjkkamfgafoaaCa
import Derived.WalkMore
set_option linter.unusedVariables false
set_option linter.unusedSimpArgs false
namespace Go.Proofs.Ytimjkkamfgafoaa
open Go.RowKit

/-- the clock at block b: its window, and its time -/
structure Cl (w : World) (b : Nat) (n t : Int) : Prop where
  blk : w.heap[b]? = some (.cells #[.int .i64 n, .int .i64 t] 50 (0, 0))
  n1 : 1 ≤ n
  nI : n ≤ 9223372036854775807
  t0 : 0 ≤ t
  tn : t + n ≤ 9223372036854775807
theorem Cl.keep {w w' : World} {b : Nat} {n t : Int} {o : List Nat} (h : Cl w b n t) (k : Kp o w w') (d : b ∉ o) : Cl w' b n t :=
  ⟨k.blk h.blk d, h.n1, h.nI, h.t0, h.tn⟩
theorem Cl.below {w w' : World} {b : Nat} {n t : Int} {B : Nat} (h : Cl w b n t) (k : Below B w w') (d : b < B) : Cl w' b n t :=
  ⟨by rw [k.block b d]; exact h.blk, h.n1, h.nI, h.t0, h.tn⟩
theorem Cl.lt {w : World} {b : Nat} {n t : Int} (h : Cl w b n t) : b < w.heap.size := lt_of_blk h.blk
theorem Cl.c {w : World} {b : Nat} {n t : Int} (h : Cl w b n t) : w.cell? ⟨b, 0, none⟩ = some (.int .i64 n) ∧ w.cell? ⟨b, 1, none⟩ = some (.int .i64 t) ∧ w.frozen? ⟨b, 1, none⟩ = false := by
  simp [cell_of_blk h.blk, free_of_blk h.blk]
/-- no clock: nil, or never made -/
def bad (w : World) (p : Option Addr) : Prop := p = none ∨ ∃ b, p = some ⟨b, 0, none⟩ ∧ w.cell? ⟨b, 0, none⟩ = some (.int .i64 0)
theorem upPtr : Try.prog.pointee 22 = 50 := by kernel_rfl
theorem dpos {n : Int} (h : 1 ≤ n) : decide (0 < n) = true := by simp; omega
set_option maxHeartbeats 400000 in
theorem valid_t {w : World} {b : Nat} {n t : Int} (h : Cl w b n t) : Calls Try.prog 30 #[.pointer (some ⟨b, 0, none⟩)] w fun e w' => e = .returned (.bool true) ∧ w = w' := by
  obtain ⟨c0, _, _⟩ := h.c
  have hd := dpos h.n1
  have hp := upPtr
  clear h
  go_enter Try.func30, Try.ntmps30
  go_wp2_with fail
  go_ret
  exact ⟨rfl, rfl⟩
set_option maxHeartbeats 400000 in
theorem valid_f (p : Option Addr) (w : World) (h : bad w p) : Calls Try.prog 30 #[.pointer p] w fun e w' => e = .returned (.bool false) ∧ w = w' := by
  have hp := upPtr
  rcases h with rfl | ⟨b, rfl, h⟩
  · go_enter Try.func30, Try.ntmps30
    go_wp2_with fail
    go_ret
    exact ⟨rfl, rfl⟩
  · go_enter Try.func30, Try.ntmps30
    go_wp2_with fail
    go_ret
    exact ⟨rfl, rfl⟩
theorem end_m (n t : Int) (w : World) (hn : I64 n) (ht : I64 t) : Calls Try.prog 31 #[.int .i64 n, .int .i64 t] w fun e w' => e = .returned (.tuple #[.int .i64 (gv (t + n)), .int .i64 (ge (t + n))]) ∧ w = w' := by
  have A := hide (add_any t n w ht hn)
  clear hn ht
  go_enter Try.func31, Try.ntmps31
  go_wp2_with fail
  refine A.out.mono ?_
  rintro e w' ⟨rfl, rfl⟩
  go_wp2_with fail
  go_ret2
  exact ⟨rfl, rfl⟩
section
variable {w : World} {b : Nat} {n t : Int} (h : Cl w b n t)
include h
theorem now_t : Calls Try.prog 23 #[.pointer (some ⟨b, 0, none⟩)] w fun e w' => e = .returned (.int .i64 t) ∧ w = w' := by
  obtain ⟨c0, c1, _⟩ := h.c
  have V := hide (valid_t h)
  have hp := upPtr
  clear h
  go_enter Try.func23, Try.ntmps23
  go_wp2_with fail
  refine V.out.mono ?_
  rintro e w' ⟨rfl, rfl⟩
  go_wp2_with fail
  go_ret
  exact ⟨rfl, rfl⟩
theorem window_t : Calls Try.prog 24 #[.pointer (some ⟨b, 0, none⟩)] w fun e w' => e = .returned (.int .i64 n) ∧ w = w' := by
  obtain ⟨c0, c1, _⟩ := h.c
  have V := hide (valid_t h)
  have hp := upPtr
  clear h
  go_enter Try.func24, Try.ntmps24
  go_wp2_with fail
  refine V.out.mono ?_
  rintro e w' ⟨rfl, rfl⟩
  go_wp2_with fail
  go_ret
  exact ⟨rfl, rfl⟩
theorem expiry_t (x : Int) (hx : I64 x) : Calls Try.prog 25 #[.pointer (some ⟨b, 0, none⟩), .int .i64 x] w fun e w' => e = .returned (.tuple #[.int .i64 (gv (x + n)), .int .i64 (ge (x + n))]) ∧ w = w' := by
  obtain ⟨c0, c1, _⟩ := h.c
  have V := hide (valid_t h)
  have E := hide (end_m n x w (by have := h.n1; have := h.nI; unfold I64; omega) hx)
  have hp := upPtr
  clear h hx
  go_enter Try.func25, Try.ntmps25
  go_wp2_with fail
  refine V.out.mono ?_
  rintro e w' ⟨rfl, rfl⟩
  go_wp2_with fail
  refine E.out.mono ?_
  rintro e w' ⟨rfl, rfl⟩
  go_wp2_with fail
  go_ret2
  exact ⟨rfl, rfl⟩
end
end Go.Proofs.Ytimjkkamfgafoaa
