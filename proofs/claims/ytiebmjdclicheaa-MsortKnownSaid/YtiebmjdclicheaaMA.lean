/- Records, and compare. -/
import Derived.Test.YtiebmjdclicheaaGen
import Derived.Test.YtiebmjdclicheaaW0
import Derived.WalkSpells
import Derived.Laws.Cover3
set_option linter.unusedVariables false
set_option linter.unusedSimpArgs false
namespace Go.Proofs.Ytiebmjdclicheaa
open Go.RowKit

theorem Kp.trans0 {a b c : World} (h : Kp [] a b) (k : Kp [] b c) : Kp [] a c := h.trans k (by simp)
theorem Kp.alloc (w : World) (x : Obj) : Kp [] w (w.alloc x) := Kp.of_below ((Below.refl _ _).alloc (Nat.le_refl _) _)
theorem Kp.allocK {w W : World} (h : Kp [] w W) (o : Obj) : Kp [] w (W.alloc o) := h.trans0 (Kp.alloc _ _)
theorem Kp.at {w w' : World} (k : Kp [] w w') {b : Nat} (hb : b < w.heap.size) (o : Nat) : w'.cell? ⟨b, o, none⟩ = w.cell? ⟨b, o, none⟩ := World.cell?_of_block (w := w) (k.block b hb (by simp))
structure R4 where
  u : Int
  v : Int
  w : Int
  t : Int
deriving DecidableEq
def R4.cells (r : R4) : List Value := [.int .u64 r.u, .int .u64 r.v, .int .i64 r.w, .int .i64 r.t]
def R4.val (r : R4) : Value := .agg #[.int .u64 r.u, .int .u64 r.v, .int .i64 r.w, .int .i64 r.t]
theorem cmp_i (x y : Int) (w : World) : Calls Try.prog 40 #[.int .i64 x, .int .i64 y] w fun e w' => e = .returned (.int .i64 (sgn x y)) ∧ w = w' := by
  rcases Int.lt_trichotomy x y with h | rfl | h
  · rw [sgn_lt h]
    go_enter Try.func40, Try.ntmps40
    go_wp2
    go_ret
    exact ⟨rfl, rfl⟩
  · rw [sgn_eq]
    go_enter Try.func40, Try.ntmps40
    go_wp2
    go_ret
    exact ⟨rfl, rfl⟩
  · rw [sgn_gt h]
    go_enter Try.func40, Try.ntmps40
    go_wp2
    go_ret
    exact ⟨rfl, rfl⟩
theorem cmp_u (x y : Int) (w : World) : Calls Try.prog 41 #[.int .u64 x, .int .u64 y] w fun e w' => e = .returned (.int .i64 (sgn x y)) ∧ w = w' := by
  rcases Int.lt_trichotomy x y with h | rfl | h
  · rw [sgn_lt h]
    go_enter Try.func41, Try.ntmps41
    go_wp2
    go_ret
    exact ⟨rfl, rfl⟩
  · rw [sgn_eq]
    go_enter Try.func41, Try.ntmps41
    go_wp2
    go_ret
    exact ⟨rfl, rfl⟩
  · rw [sgn_gt h]
    go_enter Try.func41, Try.ntmps41
    go_wp2
    go_ret
    exact ⟨rfl, rfl⟩
def mn (x y : Int) : Int := if y < x then y else x
def mx (x y : Int) : Int := if x < y then y else x
/-- which of two records is before the other: -1, 0 or 1 -/
def cmpF (k : Int) (a b : R4) : Int :=
  if k = 1 then sgn a.w b.w else if k = 2 then sgn a.t b.t else
    if sgn (mn a.u a.v) (mn b.u b.v) ≠ 0 then sgn (mn a.u a.v) (mn b.u b.v) else sgn (mx a.u a.v) (mx b.u b.v)
def bef (k : Int) (a b : R4) : Bool := decide (cmpF k a b < 0)
set_option maxRecDepth 100000 in
set_option maxHeartbeats 4000000 in
theorem compare_t (a b : R4) (k : Int) (w : World) : Calls Try.prog 30 #[a.val, b.val, .int .i64 k] w fun e w' => e = .returned (.int .i64 (cmpF k a b)) ∧ Kp [] w w' := by
  have K2 := hide ((Kp.alloc w (.cells #[.int .u64 a.u, .int .u64 a.v, .int .i64 a.w, .int .i64 a.t] 24)).allocK (.cells #[.int .u64 b.u, .int .u64 b.v, .int .i64 b.w, .int .i64 b.t] 24))
  have CI := hide cmp_i
  have CU := hide cmp_u
  obtain ⟨au, av, aw, at'⟩ := a
  obtain ⟨bu, bv, bw, bt⟩ := b
  unfold R4.val
  by_cases h1 : k = 1
  · subst h1
    go_enter Try.func30, Try.ntmps30
    go_wp2_with fail
    refine (CI.out _ _ _).mono ?_
    rintro e w' ⟨rfl, rfl⟩
    go_wp2_with fail
    go_ret
    exact ⟨by simp [cmpF], K2.out⟩
  · have d1 : (k == 1) = false := by simpa using h1
    by_cases h2 : k = 2
    · subst h2
      go_enter Try.func30, Try.ntmps30
      go_wp2_with fail
      refine (CI.out _ _ _).mono ?_
      rintro e w' ⟨rfl, rfl⟩
      go_wp2_with fail
      go_ret
      exact ⟨by simp [cmpF], K2.out⟩
    · have d2 : (k == 2) = false := by simpa using h2
      have m1 : (if av < au then av else au) = mn au av := rfl
      have m2 : (if bv < bu then bv else bu) = mn bu bv := rfl
      have m3 : (if au < av then av else au) = mx au av := rfl
      have m4 : (if bu < bv then bv else bu) = mx bu bv := rfl
      obtain ⟨z, hz⟩ : ∃ z, z = sgn (mn au av) (mn bu bv) := ⟨_, rfl⟩
      by_cases h3 : z = 0
      · have R : cmpF k ⟨au, av, aw, at'⟩ ⟨bu, bv, bw, bt⟩ = sgn (mx au av) (mx bu bv) := by unfold cmpF; rw [if_neg h1, if_neg h2, if_neg (by rw [← hz]; simpa using h3)]
        rw [R]
        have HZ := hide (show sgn (mn au av) (mn bu bv) = 0 by rw [← hz]; exact h3)
        clear h1 h2 h3 hz R
        generalize mx au av = x1 at *
        generalize mx bu bv = x2 at *
        generalize mn au av = y1 at *
        generalize mn bu bv = y2 at *
        go_enter Try.func30, Try.ntmps30
        go_wp2_with fail
        refine (CU.out _ _ _).mono ?_
        rintro e w' ⟨rfl, rfl⟩
        rw [HZ.out]
        go_wp2_with fail
        refine (CU.out _ _ _).mono ?_
        rintro e w' ⟨rfl, rfl⟩
        go_wp2_with fail
        go_ret
        exact ⟨rfl, K2.out⟩
      · have R : cmpF k ⟨au, av, aw, at'⟩ ⟨bu, bv, bw, bt⟩ = sgn (mn au av) (mn bu bv) := by unfold cmpF; rw [if_neg h1, if_neg h2, if_pos (by rw [← hz]; exact h3)]
        rw [R]
        have d3 : (z == 0) = false := by simpa using h3
        have HZ := hide (show sgn (mn au av) (mn bu bv) = z from hz.symm)
        clear h1 h2 h3 hz R
        generalize mn au av = y1 at *
        generalize mn bu bv = y2 at *
        go_enter Try.func30, Try.ntmps30
        go_wp2_with fail
        refine (CU.out _ _ _).mono ?_
        rintro e w' ⟨rfl, rfl⟩
        rw [HZ.out]
        go_wp2_with fail
        go_ret
        exact ⟨by rw [HZ.out]; rfl, K2.out⟩
end Go.Proofs.Ytiebmjdclicheaa
