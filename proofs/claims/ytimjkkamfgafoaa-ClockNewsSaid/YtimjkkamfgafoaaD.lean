/- The document's clock: what its methods answer. -/
import Derived.Test.YtimjkkamfgafoaaC
import Derived.Test.YtimjkkamfgafoaaS7
import Derived.RegionTactic
import Derived.ChangeAlike
import Derived.Deep.RegionHeld3
set_option linter.unusedVariables false
set_option linter.unusedSimpArgs false
namespace Go.Proofs.Ytimjkkamfgafoaa
open Go.RowKit

structure Rl (w : World) (b : Nat) (n t : Int) : Prop where
  blk : w.heap[b]? = some (.cells #[.bool true, .int .i64 n, .int .i64 t] 53 (0, 0))
  n1 : 1 ≤ n
  nI : n ≤ 9223372036854775807
  t0 : 0 ≤ t
  tn : t + n ≤ 9223372036854775807
theorem Rl.keep {w w' : World} {b : Nat} {n t : Int} {o : List Nat} (h : Rl w b n t) (k : Kp o w w') (d : b ∉ o) : Rl w' b n t :=
  ⟨k.blk h.blk d, h.n1, h.nI, h.t0, h.tn⟩
theorem Rl.below {w w' : World} {b : Nat} {n t : Int} {B : Nat} (h : Rl w b n t) (k : Below B w w') (d : b < B) : Rl w' b n t :=
  ⟨by rw [k.block b d]; exact h.blk, h.n1, h.nI, h.t0, h.tn⟩
theorem Rl.lt {w : World} {b : Nat} {n t : Int} (h : Rl w b n t) : b < w.heap.size := lt_of_blk h.blk
theorem Rl.c {w : World} {b : Nat} {n t : Int} (h : Rl w b n t) : w.cell? ⟨b, 0, none⟩ = some (.bool true) ∧ w.cell? ⟨b, 1, none⟩ = some (.int .i64 n) ∧ w.cell? ⟨b, 2, none⟩ = some (.int .i64 t) ∧ w.frozen? ⟨b, 2, none⟩ = false := by
  simp [cell_of_blk h.blk, free_of_blk h.blk]
theorem upPtrR : Try.prog.pointee 26 = 53 := by kernel_rfl
theorem rvalid_t {w : World} {b : Nat} (h : w.cell? ⟨b, 0, none⟩ = some (.bool true)) : Calls Try.prog 32 #[.pointer (some ⟨b, 0, none⟩)] w fun e w' => e = .returned (.bool true) ∧ w = w' := by
  have hp := upPtrR
  go_enter Try.func32, Try.ntmps32
  go_wp2_with fail
  go_ret
  exact ⟨rfl, rfl⟩
theorem rvalid_n (w : World) : Calls Try.prog 32 #[.pointer none] w fun e w' => e = .returned (.bool false) ∧ w = w' := by
  have hp := upPtrR
  go_enter Try.func32, Try.ntmps32
  go_wp2_with fail
  go_ret
  exact ⟨rfl, rfl⟩
theorem g_radd (x y : Int) (W : World) (hx : I64 x) (hy : I64 y) : Calls Try.prog 33 #[.int .i64 x, .int .i64 y] W fun e w' => e = .returned (.tuple #[.int .i64 (gv (x + y)), .int .i64 (ge (x + y))]) ∧ Below W.heap.size W w' := by
  refine (ref_add x y hx hy W).mono ?_
  rintro e w' ⟨⟨hh, rfl⟩ | ⟨hh, rfl⟩, bb⟩
  · rw [gv_ok hh, ge_ok hh]; exact ⟨rfl, bb⟩
  · rw [gv_no hh, ge_no hh]; exact ⟨rfl, bb⟩
section
variable {w : World} {b : Nat} {n t : Int} (h : Rl w b n t)
include h
theorem rnow_t : Calls Try.prog 21 #[.pointer (some ⟨b, 0, none⟩)] w fun e w' => e = .returned (.int .i64 t) ∧ w = w' := by
  obtain ⟨c0, c1, c2, _⟩ := h.c
  have V := hide (rvalid_t c0)
  have hp := upPtrR
  clear h
  go_enter Try.func21, Try.ntmps21
  go_wp2_with fail
  refine V.out.mono ?_
  rintro e w' ⟨rfl, rfl⟩
  go_wp2_with fail
  go_ret
  exact ⟨rfl, rfl⟩
theorem rwindow_t : Calls Try.prog 28 #[.pointer (some ⟨b, 0, none⟩)] w fun e w' => e = .returned (.int .i64 n) ∧ w = w' := by
  obtain ⟨c0, c1, c2, _⟩ := h.c
  have V := hide (rvalid_t c0)
  have hp := upPtrR
  clear h
  go_enter Try.func28, Try.ntmps28
  go_wp2_with fail
  refine V.out.mono ?_
  rintro e w' ⟨rfl, rfl⟩
  go_wp2_with fail
  go_ret
  exact ⟨rfl, rfl⟩
theorem rexpiry_t (x : Int) (hx : I64 x) : Calls Try.prog 27 #[.pointer (some ⟨b, 0, none⟩), .int .i64 x] w fun e w' => e = .returned (.tuple #[.int .i64 (gv (x + n)), .int .i64 (ge (x + n))]) ∧ Below w.heap.size w w' := by
  obtain ⟨c0, c1, c2, _⟩ := h.c
  have V := hide (rvalid_t c0)
  have E := hide (g_radd x n w hx (by have := h.n1; have := h.nI; unfold I64; omega))
  have hp := upPtrR
  clear h hx
  go_enter Try.func27, Try.ntmps27
  go_wp2_with fail
  refine V.out.mono ?_
  rintro e w' ⟨rfl, rfl⟩
  go_wp2_with fail
  refine E.out.mono ?_
  rintro e w2 ⟨rfl, bb⟩
  go_wp2_with fail
  go_ret2
  exact ⟨rfl, bb⟩
theorem rcheck_t (x : Int) (hx : I64 x) : Calls Try.prog 18 #[.pointer (some ⟨b, 0, none⟩), .int .i64 x] w fun e w' => e = .returned (.int .i64 (ck n t x)) ∧ Below w.heap.size w w' := by
  obtain ⟨c0, c1, c2, _⟩ := h.c
  have V := hide (rvalid_t c0)
  have E := hide (g_radd x n w hx (by have := h.n1; have := h.nI; unfold I64; omega))
  have hp := upPtrR
  clear h
  by_cases hl : x < t
  · rw [ck_lo hl]
    have hd : decide (x < t) = true := by simp [hl]
    clear hx hl
    go_enter Try.func18, Try.ntmps18
    go_wp2_with fail
    refine V.out.mono ?_
    rintro e w' ⟨rfl, rfl⟩
    go_wp2_with fail
    go_ret
    exact ⟨rfl, Below.refl _ _⟩
  · rw [ck_hi hl]
    have hd : decide (x < t) = false := by simp; omega
    clear hx hl
    go_enter Try.func18, Try.ntmps18
    go_wp2_with fail
    refine V.out.mono ?_
    rintro e w' ⟨rfl, rfl⟩
    go_wp2_with fail
    refine E.out.mono ?_
    rintro e w2 ⟨rfl, bb⟩
    go_wp2_with fail
    go_ret
    exact ⟨rfl, bb⟩
theorem radvance_t (x : Int) (hx : I64 x) : Calls Try.prog 16 #[.pointer (some ⟨b, 0, none⟩), .int .i64 x] w fun e w' => e = .returned (.int .i64 (ck n t x)) ∧ Rl w' b n (nx n t x) ∧ Kp [b] w w' := by
  have V := hide (rcheck_t h x hx)
  have hp := upPtrR
  have H := hide h
  by_cases hk : ck n t x = 0
  · rw [nx_ok hk]
    have K := hide (ck0 hx h.n1 h.nI h.t0 hk)
    rw [hk] at V ⊢
    clear h hk hx
    go_enter Try.func16, Try.ntmps16
    go_wp2_with fail
    refine V.out.mono ?_
    rintro e w2 ⟨rfl, bb⟩
    have H2 := H.out.below bb H.out.lt
    obtain ⟨_, _, _, fr⟩ := H2.c
    have HH := hide H2
    have HB := hide bb
    clear H2 bb
    go_wp2_with fail
    go_ret
    refine ⟨rfl, ⟨?_, HH.out.n1, HH.out.nI, by have := K.out; have := HH.out.t0; omega, K.out.2⟩, (Kp.of_below HB.out).trans (Kp.set _ _ _ (by simp)) (p := [b]) (by intro z hz; exact .inl hz)⟩
    exact heap_setCell_same _ _ _ _ _ _ HH.out.blk
  · rw [nx_no hk]
    have hd : (ck n t x == 0) = false := by simp [hk]
    have hd' : (ck n t x != 0) = true := by simp [hk]
    clear h hk hx
    generalize ck n t x = k at *
    go_enter Try.func16, Try.ntmps16
    go_wp2_with fail
    refine V.out.mono ?_
    rintro e w2 ⟨rfl, bb⟩
    go_wp2_with fail
    go_ret
    exact ⟨rfl, H.out.below bb H.out.lt, Kp.of_below bb⟩
theorem rcopy_t : Calls Try.prog 20 #[.pointer (some ⟨b, 0, none⟩)] w fun e w' => e = .returned (.pointer (some ⟨w.heap.size, 0, none⟩)) ∧ Rl w' w.heap.size n t ∧ Below w.heap.size w w' := by
  obtain ⟨c0, c1, c2, _⟩ := h.c
  have V := hide (rvalid_t c0)
  have hp := upPtrR
  have H := hide h
  clear h
  go_enter Try.func20, Try.ntmps20
  go_wp2_with fail
  refine V.out.mono ?_
  rintro e w' ⟨rfl, rfl⟩
  go_wp2_with fail
  go_region
  all_goals
    go_wp2_with fail
    go_ret
    exact ⟨rfl, ⟨heap_alloc_new w _, H.out.n1, H.out.nI, H.out.t0, H.out.tn⟩, ((Below.refl _ _).alloc (Nat.le_refl _) _).drew⟩
end
theorem rnew_t (n : Int) (w : World) (h1 : 1 ≤ n) (h2 : n ≤ 9223372036854775807) : Calls Try.prog 12 #[.int .i64 n] w fun e w' => e = .returned (.tuple #[.pointer (some ⟨w.heap.size, 0, none⟩), .int .i64 0]) ∧ Rl w' w.heap.size n 0 ∧ Below w.heap.size w w' := by
  have hd : decide (n < 1) = false := by simp; omega
  have H := hide (And.intro h1 h2)
  clear h1 h2
  go_enter Try.func12, Try.ntmps12
  go_wp2_with fail
  go_ret2
  refine ⟨rfl, ⟨?_, H.out.1, H.out.2, by omega, by have := H.out; omega⟩, (Below.refl _ _).alloc (Nat.le_refl _) _⟩
  exact heap_alloc_new w _
theorem rnew_f (n : Int) (w : World) (h1 : n < 1) : Calls Try.prog 12 #[.int .i64 n] w fun e w' => e = .returned (.tuple #[.pointer none, .int .i64 2]) ∧ w = w' := by
  have hd : decide (n < 1) = true := by simp; omega
  clear h1
  go_enter Try.func12, Try.ntmps12
  go_wp2_with fail
  go_ret2
  exact ⟨rfl, rfl⟩
section
variable (w : World)
theorem rexpiry_n (x : Int) : Calls Try.prog 27 #[.pointer none, .int .i64 x] w fun e w' => e = .returned (.tuple #[.int .i64 0, .int .i64 1]) ∧ w = w' := by
  have v0 := rvalid_n w
  go_enter Try.func27, Try.ntmps27
  go_wp2_with (go_at_call 32; refine v0.mono ?_; rintro e w' ⟨rfl, rfl⟩)
  go_ret2
  exact ⟨rfl, rfl⟩
theorem rcheck_n (x : Int) : Calls Try.prog 18 #[.pointer none, .int .i64 x] w fun e w' => e = .returned (.int .i64 1) ∧ w = w' := by
  have v0 := rvalid_n w
  go_enter Try.func18, Try.ntmps18
  go_wp2_with (go_at_call 32; refine v0.mono ?_; rintro e w' ⟨rfl, rfl⟩)
  go_ret
  exact ⟨rfl, rfl⟩
theorem radvance_n (x : Int) : Calls Try.prog 16 #[.pointer none, .int .i64 x] w fun e w' => e = .returned (.int .i64 1) ∧ w = w' := by
  have v0 := rcheck_n w x
  go_enter Try.func16, Try.ntmps16
  go_wp2_with (go_at_call 18; refine v0.mono ?_; rintro e w' ⟨rfl, rfl⟩)
  go_ret
  exact ⟨rfl, rfl⟩
theorem rlive_n (x : Int) : Calls Try.prog 29 #[.pointer none, .int .i64 x] w fun e w' => e = .returned (.bool false) ∧ w = w' := by
  have v0 := rvalid_n w
  go_enter Try.func29, Try.ntmps29
  go_wp2_with (go_at_call 32; refine v0.mono ?_; rintro e w' ⟨rfl, rfl⟩)
  go_ret
  exact ⟨rfl, rfl⟩
theorem rnow_n : Calls Try.prog 21 #[.pointer none] w fun e w' => e = .returned (.int .i64 0) ∧ w = w' := by
  have v0 := rvalid_n w
  go_enter Try.func21, Try.ntmps21
  go_wp2_with (go_at_call 32; refine v0.mono ?_; rintro e w' ⟨rfl, rfl⟩)
  go_ret
  exact ⟨rfl, rfl⟩
theorem rwindow_n : Calls Try.prog 28 #[.pointer none] w fun e w' => e = .returned (.int .i64 0) ∧ w = w' := by
  have v0 := rvalid_n w
  go_enter Try.func28, Try.ntmps28
  go_wp2_with (go_at_call 32; refine v0.mono ?_; rintro e w' ⟨rfl, rfl⟩)
  go_ret
  exact ⟨rfl, rfl⟩
theorem rcopy_n : Calls Try.prog 20 #[.pointer none] w fun e w' => e = .returned (.pointer none) ∧ w = w' := by
  have v0 := rvalid_n w
  go_enter Try.func20, Try.ntmps20
  go_wp2_with (go_at_call 32; refine v0.mono ?_; rintro e w' ⟨rfl, rfl⟩)
  go_ret
  exact ⟨rfl, rfl⟩
end
end Go.Proofs.Ytimjkkamfgafoaa
