/- Clocks: Check, Live, New, Advance, Copy; windows for any number. -/
import Derived.Test.YtimjkkamfgafoaaA
import Derived.RegionTactic
import Derived.ChangeAlike
set_option linter.unusedVariables false
set_option linter.unusedSimpArgs false
namespace Go.Proofs.Ytimjkkamfgafoaa
open Go.RowKit

/-- what Check answers at the time x -/
def ck (n t x : Int) : Int := if x < t then 10 else ge (x + n)
/-- whether an edge of the time x is live -/
def lv (n t x : Int) : Bool := decide (x ≤ t ∧ t < x + n)
theorem ck_lo {n t x : Int} (h : x < t) : ck n t x = 10 := by unfold ck; rw [if_pos h]
theorem ck_hi {n t x : Int} (h : ¬ x < t) : ck n t x = ge (x + n) := by unfold ck; rw [if_neg h]
/-- the time after an advance -/
def nx (n t x : Int) : Int := if ck n t x = 0 then x else t
theorem nx_no {n t x : Int} (h : ck n t x ≠ 0) : nx n t x = t := by unfold nx; rw [if_neg h]
theorem nx_ok {n t x : Int} (h : ck n t x = 0) : nx n t x = x := by unfold nx; rw [if_pos h]
theorem ck0 {n t x : Int} (hx : I64 x) (hn : 1 ≤ n) (hN : n ≤ 9223372036854775807) (h0 : 0 ≤ t) (h : ck n t x = 0) : t ≤ x ∧ x + n ≤ 9223372036854775807 := by
  unfold ck ge at h; unfold I64 at hx
  split at h
  · simp at h
  · split at h
    · omega
    · simp at h
section
variable {w : World} {b : Nat} {n t : Int} (h : Cl w b n t)
include h
theorem check_t (x : Int) (hx : I64 x) : Calls Try.prog 17 #[.pointer (some ⟨b, 0, none⟩), .int .i64 x] w fun e w' => e = .returned (.int .i64 (ck n t x)) ∧ w = w' := by
  obtain ⟨c0, c1, _⟩ := h.c
  have V := hide (valid_t h)
  have E := hide (end_m n x w (by have := h.n1; have := h.nI; unfold I64; omega) hx)
  have hp := upPtr
  clear h
  by_cases hl : x < t
  · rw [ck_lo hl]
    have hd : decide (x < t) = true := by simp [hl]
    clear hx hl
    go_enter Try.func17, Try.ntmps17
    go_wp2_with fail
    refine V.out.mono ?_
    rintro e w' ⟨rfl, rfl⟩
    go_wp2_with fail
    go_ret
    exact ⟨rfl, rfl⟩
  · rw [ck_hi hl]
    have hd : decide (x < t) = false := by simp; omega
    clear hx hl
    go_enter Try.func17, Try.ntmps17
    go_wp2_with fail
    refine V.out.mono ?_
    rintro e w' ⟨rfl, rfl⟩
    go_wp2_with fail
    refine E.out.mono ?_
    rintro e w' ⟨rfl, rfl⟩
    go_wp2_with fail
    go_ret
    exact ⟨rfl, rfl⟩
theorem live_t (x : Int) (hx : I64 x) : Calls Try.prog 26 #[.pointer (some ⟨b, 0, none⟩), .int .i64 x] w fun e w' => e = .returned (.bool (lv n t x)) ∧ w = w' := by
  obtain ⟨c0, c1, _⟩ := h.c
  have E := hide (expiry_t h x hx)
  have hp := upPtr
  obtain ⟨_, h1, h2, h3, h4⟩ := h
  by_cases hf : I64 (x + n)
  · rw [gv_ok hf, ge_ok hf] at E
    by_cases ha : x ≤ t
    · have hd : decide (x ≤ t) = true := by simp [ha]
      have L := hide (show lv n t x = decide (t < x + n) by unfold lv; simp [ha])
      clear hf ha hx h1 h2 h3 h4
      generalize x + n = y at *
      go_enter Try.func26, Try.ntmps26
      go_wp2_with fail
      refine E.out.mono ?_
      rintro e w' ⟨rfl, rfl⟩
      go_wp2_with fail
      go_ret
      exact ⟨by rw [L.out]; rfl, rfl⟩
    · have hd : decide (x ≤ t) = false := by simp; omega
      have L := hide (show lv n t x = false by unfold lv; simp [ha])
      clear hf ha hx h1 h2 h3 h4
      go_enter Try.func26, Try.ntmps26
      go_wp2_with fail
      refine E.out.mono ?_
      rintro e w' ⟨rfl, rfl⟩
      go_wp2_with fail
      go_ret
      exact ⟨by rw [L.out]; rfl, rfl⟩
  · rw [gv_no hf, ge_no hf] at E
    have L := hide (show lv n t x = false by unfold lv; unfold I64 at hf hx; simp; omega)
    clear hf hx h1 h2 h3 h4
    go_enter Try.func26, Try.ntmps26
    go_wp2_with fail
    refine E.out.mono ?_
    rintro e w' ⟨rfl, rfl⟩
    go_wp2_with fail
    go_ret
    exact ⟨by rw [L.out]; rfl, rfl⟩
theorem advance_t (x : Int) (hx : I64 x) : Calls Try.prog 15 #[.pointer (some ⟨b, 0, none⟩), .int .i64 x] w fun e w' => e = .returned (.int .i64 (ck n t x)) ∧ Cl w' b n (nx n t x) ∧ Kp [b] w w' := by
  obtain ⟨c0, c1, f1⟩ := h.c
  have V := hide (check_t h x hx)
  have hp := upPtr
  have H := hide h
  by_cases hk : ck n t x = 0
  · rw [nx_ok hk]
    have K := hide (ck0 hx h.n1 h.nI h.t0 hk)
    rw [hk] at V ⊢
    clear h hk hx
    go_enter Try.func15, Try.ntmps15
    go_wp2_with fail
    refine V.out.mono ?_
    rintro e w' ⟨rfl, rfl⟩
    go_wp2_with fail
    go_ret
    refine ⟨rfl, ⟨?_, H.out.n1, H.out.nI, by have := K.out; have := H.out.t0; omega, K.out.2⟩, Kp.set _ _ _ (by simp)⟩
    exact heap_setCell_same _ _ _ _ _ _ H.out.blk
  · rw [nx_no hk]
    have hd : (ck n t x == 0) = false := by simp [hk]
    have hd' : (ck n t x != 0) = true := by simp [hk]
    clear h hk hx
    generalize ck n t x = k at *
    go_enter Try.func15, Try.ntmps15
    go_wp2_with fail
    refine V.out.mono ?_
    rintro e w' ⟨rfl, rfl⟩
    go_wp2_with fail
    go_ret
    exact ⟨rfl, H.out, Kp.refl _ _⟩
theorem copy_t : Calls Try.prog 19 #[.pointer (some ⟨b, 0, none⟩)] w fun e w' => e = .returned (.pointer (some ⟨w.heap.size, 0, none⟩)) ∧ Cl w' w.heap.size n t ∧ Below w.heap.size w w' := by
  obtain ⟨c0, c1, f1⟩ := h.c
  have V := hide (valid_t h)
  have hp := upPtr
  have H := hide h
  clear h
  go_enter Try.func19, Try.ntmps19
  go_wp2_with fail
  refine V.out.mono ?_
  rintro e w' ⟨rfl, rfl⟩
  go_wp2_with fail
  go_region
  all_goals
    go_wp2_with fail
    go_ret
    exact ⟨rfl, ⟨heap_alloc_new w _, H.out.n1, H.out.nI, H.out.t0, H.out.tn⟩, ((Below.refl _ _).alloc (Nat.le_refl _) _).drew⟩
end
theorem new_t (n : Int) (w : World) (h1 : 1 ≤ n) (h2 : n ≤ 9223372036854775807) : Calls Try.prog 11 #[.int .i64 n] w fun e w' => e = .returned (.tuple #[.pointer (some ⟨w.heap.size, 0, none⟩), .int .i64 0]) ∧ Cl w' w.heap.size n 0 ∧ Below w.heap.size w w' := by
  have hd : decide (n < 1) = false := by simp; omega
  have H := hide (And.intro h1 h2)
  clear h1 h2
  go_enter Try.func11, Try.ntmps11
  go_wp2_with fail
  go_ret2
  refine ⟨rfl, ⟨?_, H.out.1, H.out.2, by omega, by have := H.out; omega⟩, (Below.refl _ _).alloc (Nat.le_refl _) _⟩
  exact heap_alloc_new w _
theorem new_f (n : Int) (w : World) (h1 : n < 1) : Calls Try.prog 11 #[.int .i64 n] w fun e w' => e = .returned (.tuple #[.pointer none, .int .i64 2]) ∧ w = w' := by
  have hd : decide (n < 1) = true := by simp; omega
  clear h1
  go_enter Try.func11, Try.ntmps11
  go_wp2_with fail
  go_ret2
  exact ⟨rfl, rfl⟩
def sp (n : Int) : Int := if n < 1 then (if -(n + 1) < 1 then 1 else -(n + 1)) else n
theorem sp_bd {n : Int} (h : I64 n) : 1 ≤ sp n ∧ sp n ≤ 9223372036854775807 := by
  unfold sp; unfold I64 at h; split <;> (try split) <;> omega
theorem span_t (n : Int) (w : World) (h : I64 n) : Calls Try.prog 22 #[.int .i64 n] w fun e w' => e = .returned (.int .i64 (sp n)) ∧ w = w' := by
  unfold sp
  unfold I64 at h
  obtain ⟨ha, hb⟩ := h
  by_cases h1 : n < 1
  · by_cases h2 : -(n + 1) < 1
    · rw [if_pos h1, if_pos h2]
      go_enter Try.func22, Try.ntmps22
      go_wp2_with fail
      go_ret
      exact ⟨rfl, rfl⟩
    · rw [if_pos h1, if_neg h2]
      go_enter Try.func22, Try.ntmps22
      go_wp2_with fail
      go_ret
      exact ⟨rfl, rfl⟩
  · rw [if_neg h1]
    go_enter Try.func22, Try.ntmps22
    go_wp2_with fail
    go_ret
    exact ⟨rfl, rfl⟩
end Go.Proofs.Ytimjkkamfgafoaa
