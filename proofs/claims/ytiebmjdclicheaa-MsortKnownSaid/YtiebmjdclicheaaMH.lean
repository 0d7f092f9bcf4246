/- Less: the program's and the specification's. -/
import Derived.Test.YtiebmjdclicheaaMG
import Derived.BigQuiet
set_option linter.unusedVariables false
set_option linter.unusedSimpArgs false
namespace Go.Proofs.Ytiebmjdclicheaa
open Go.RowKit

theorem known_t (k : Int) (w : World) : Calls Try.prog 31 #[.int .i64 k] w fun e w' => e = .returned (.bool (decide (k = 1 ∨ k = 2 ∨ k = 3))) ∧ w = w' := by
  by_cases h1 : 1 ≤ k
  · by_cases h2 : k ≤ 3
    · have : k = 1 ∨ k = 2 ∨ k = 3 := by omega
      rcases this with rfl | rfl | rfl
      all_goals
        clear h1 h2
        go_enter Try.func31, Try.ntmps31
        go_wp2_with fail
        go_ret
        exact ⟨rfl, rfl⟩
    · rw [show decide (k = 1 ∨ k = 2 ∨ k = 3) = false by simp; omega]
      have d1 : decide (1 ≤ k) = true := by simpa using h1
      have d2 : decide (k ≤ 3) = false := by simpa using h2
      clear h1 h2
      go_enter Try.func31, Try.ntmps31
      go_wp2_with fail
      go_ret
      exact ⟨rfl, rfl⟩
  · rw [show decide (k = 1 ∨ k = 2 ∨ k = 3) = false by simp; omega]
    have d1 : decide (1 ≤ k) = false := by simpa using h1
    clear h1
    go_enter Try.func31, Try.ntmps31
    go_wp2_with fail
    go_ret
    exact ⟨rfl, rfl⟩
theorem pair_t (a : R4) (w : World) : Calls Try.prog 42 #[a.val] w fun e w' => e = .returned (.tuple #[.int .u64 (mn a.u a.v), .int .u64 (mx a.u a.v)]) ∧ Kp [] w w' := by
  have K2 := hide (Kp.alloc w (.cells #[.int .u64 a.u, .int .u64 a.v, .int .i64 a.w, .int .i64 a.t] 24))
  obtain ⟨au, av, aw, at'⟩ := a
  unfold R4.val
  by_cases h : au ≤ av
  · have e1 : mn au av = au := by unfold mn; rw [if_neg (by omega)]
    have e2 : mx au av = av := by unfold mx; split <;> omega
    rw [e1, e2]
    have d : decide (au ≤ av) = true := by simpa using h
    clear e1 e2 h
    go_enter Try.func42, Try.ntmps42
    go_wp2_with fail
    go_quiet (fail)
    go_wp2_with fail
    go_ret2
    exact ⟨rfl, K2.out.trans0 (Kp.drewN [] _ _)⟩
  · have e1 : mn au av = av := by unfold mn; rw [if_pos (by omega)]
    have e2 : mx au av = au := by unfold mx; split <;> omega
    rw [e1, e2]
    have d : decide (au ≤ av) = false := by simpa using h
    clear e1 e2 h
    go_enter Try.func42, Try.ntmps42
    go_wp2_with fail
    go_quiet (fail)
    go_wp2_with fail
    go_ret2
    exact ⟨rfl, K2.out.trans0 (Kp.drewN [] _ _)⟩
theorem bef_pair {k : Int} {a b : R4} (h1 : k ≠ 1) (h2 : k ≠ 2) : bef k a b = (decide (mn a.u a.v < mn b.u b.v) || ((mn a.u a.v == mn b.u b.v) && decide (mx a.u a.v < mx b.u b.v))) := by
  unfold bef cmpF
  rw [if_neg h1, if_neg h2]
  generalize mx a.u a.v = x1
  generalize mx b.u b.v = x2
  generalize mn a.u a.v = y1
  generalize mn b.u b.v = y2
  by_cases e : y1 = y2
  · subst e; rw [if_neg (by simp [sgn_eq]), sgn_neg]; simp
  · rw [if_pos (by rcases Int.lt_or_gt_of_ne e with g | g; · rw [sgn_lt g]; decide
                   · rw [sgn_gt g]; decide), sgn_neg]; simp [e]
set_option maxRecDepth 100000 in
set_option maxHeartbeats 4000000 in
theorem before_t (a b : R4) (k : Int) (w : World) : Calls Try.prog 32 #[a.val, b.val, .int .i64 k] w fun e w' => e = .returned (.bool (bef k a b)) ∧ Kp [] w w' := by
  have K2 := hide ((Kp.alloc w (.cells #[.int .u64 a.u, .int .u64 a.v, .int .i64 a.w, .int .i64 a.t] 24)).allocK (.cells #[.int .u64 b.u, .int .u64 b.v, .int .i64 b.w, .int .i64 b.t] 24))
  have PA := hide (pair_t a)
  have PB := hide (pair_t b)
  by_cases h1 : k = 1
  · subst h1
    have R : bef 1 a b = decide (a.w < b.w) := by unfold bef cmpF; rw [if_pos rfl, sgn_neg]
    rw [R]
    clear R PA PB
    unfold R4.val
    go_enter Try.func32, Try.ntmps32
    go_wp2_with fail
    go_ret
    exact ⟨rfl, K2.out⟩
  · by_cases h2 : k = 2
    · subst h2
      have R : bef 2 a b = decide (a.t < b.t) := by unfold bef cmpF; rw [if_neg (by decide), if_pos rfl, sgn_neg]
      rw [R]
      clear R PA PB
      unfold R4.val
      go_enter Try.func32, Try.ntmps32
      go_wp2_with fail
      go_ret
      exact ⟨rfl, K2.out⟩
    · rw [bef_pair h1 h2]
      have d1 : (k == 1) = false := by simpa using h1
      have d2 : (k == 2) = false := by simpa using h2
      have CB := hide (fun (w1 : World) (kk : Kp [] ((w.alloc (.cells #[.int .u64 a.u, .int .u64 a.v, .int .i64 a.w, .int .i64 a.t] 24)).alloc (.cells #[.int .u64 b.u, .int .u64 b.v, .int .i64 b.w, .int .i64 b.t] 24)) w1) => at4_blk (x := b) (kk.blk (heap_alloc_new _ _) (by simp)))
      clear h1 h2
      unfold R4.val at PA PB ⊢
      generalize mx a.u a.v = x1 at *
      generalize mx b.u b.v = x2 at *
      generalize mn a.u a.v = y1 at *
      generalize mn b.u b.v = y2 at *
      go_enter Try.func32, Try.ntmps32
      go_wp2_with fail
      refine (PA.out _).mono ?_
      rintro e w1 ⟨rfl, k1⟩
      obtain ⟨c1, c2, c3, c4⟩ : w1.cell? ⟨w.heap.size + 1, 0, none⟩ = some (.int .u64 b.u) ∧ w1.cell? ⟨w.heap.size + 1, 1, none⟩ = some (.int .u64 b.v) ∧ w1.cell? ⟨w.heap.size + 1, 2, none⟩ = some (.int .i64 b.w) ∧ w1.cell? ⟨w.heap.size + 1, 3, none⟩ = some (.int .i64 b.t) := by
        have q := CB.out w1 k1
        rw [show (w.alloc (.cells #[.int .u64 a.u, .int .u64 a.v, .int .i64 a.w, .int .i64 a.t] 24)).heap.size = w.heap.size + 1 by simp] at q
        exact q
      have K3 := hide (K2.out.trans0 k1)
      clear k1
      go_wp2_with fail
      refine (PB.out _).mono ?_
      rintro e w2 ⟨rfl, k2⟩
      have K4 := hide (K3.out.trans0 k2)
      clear k2 c1 c2 c3 c4
      rcases Int.lt_trichotomy y1 y2 with g | g | g
      · have g1 : decide (y1 < y2) = true := by simpa using g
        go_wp2_with fail
        go_ret
        exact ⟨by simp [g1], K4.out⟩
      · subst g
        have g1 : decide (y1 < y1) = false := by simp
        have g2 : (y1 == y1) = true := by simp
        go_wp2_with fail
        go_ret
        exact ⟨by simp [g1, g2], K4.out⟩
      · have g1 : decide (y1 < y2) = false := by simp; omega
        have g2 : (y1 == y2) = false := by simp; omega
        go_wp2_with fail
        go_ret
        exact ⟨by simp [g1, g2], K4.out⟩
/-- the answer of Less -/
def lessA (k : Int) (a b : R4) : Bool := if k = 1 ∨ k = 2 ∨ k = 3 then bef k a b else false
def lessE (k : Int) : Int := if k = 1 ∨ k = 2 ∨ k = 3 then 0 else 2
set_option maxRecDepth 100000 in
set_option maxHeartbeats 4000000 in
theorem lessP_t (a b : R4) (k : Int) (w : World) : Calls Try.prog 12 #[a.val, b.val, .int .i64 k] w fun e w' => e = .returned (.tuple #[.bool (lessA k a b), .int .i64 (lessE k)]) ∧ Kp [] w w' := by
  have K2 := hide ((Kp.alloc w (.cells #[.int .u64 a.u, .int .u64 a.v, .int .i64 a.w, .int .i64 a.t] 24)).allocK (.cells #[.int .u64 b.u, .int .u64 b.v, .int .i64 b.w, .int .i64 b.t] 24))
  have CQ := hide (compare_t a b k)
  by_cases hk : k = 1 ∨ k = 2 ∨ k = 3
  · have CK := hide (fun w => check_ok 0 k (by omega) hk w)
    unfold lessA lessE
    rw [if_pos hk, if_pos hk]
    unfold bef
    generalize cmpF k a b = z at *
    clear hk
    unfold R4.val at CQ ⊢
    go_enter Try.func12, Try.ntmps12
    go_wp2_with fail
    refine (CK.out _).mono ?_
    rintro e w1 ⟨rfl, rfl⟩
    go_wp2_with fail
    refine (CQ.out _).mono ?_
    rintro e w2 ⟨rfl, k2⟩
    have K3 := hide (K2.out.trans0 k2)
    clear k2
    go_wp2_with fail
    go_ret2
    exact ⟨rfl, K3.out⟩
  · have CK := hide (fun w => check_arg 0 k hk w)
    unfold lessA lessE
    rw [if_neg hk, if_neg hk]
    clear hk CQ
    unfold R4.val
    go_enter Try.func12, Try.ntmps12
    go_wp2_with fail
    refine (CK.out _).mono ?_
    rintro e w1 ⟨rfl, rfl⟩
    go_wp2_with fail
    go_ret2
    exact ⟨rfl, K2.out⟩
set_option maxRecDepth 100000 in
set_option maxHeartbeats 4000000 in
theorem lessR_t (a b : R4) (k : Int) (w : World) : Calls Try.prog 13 #[a.val, b.val, .int .i64 k] w fun e w' => e = .returned (.tuple #[.bool (lessA k a b), .int .i64 (lessE k)]) ∧ Kp [] w w' := by
  have K2 := hide ((Kp.alloc w (.cells #[.int .u64 a.u, .int .u64 a.v, .int .i64 a.w, .int .i64 a.t] 24)).allocK (.cells #[.int .u64 b.u, .int .u64 b.v, .int .i64 b.w, .int .i64 b.t] 24))
  have CQ := hide (before_t a b k)
  have CK := hide (known_t k)
  by_cases hk : k = 1 ∨ k = 2 ∨ k = 3
  · unfold lessA lessE
    rw [if_pos hk, if_pos hk]
    rw [show decide (k = 1 ∨ k = 2 ∨ k = 3) = true by simpa using hk] at CK
    generalize bef k a b = z at *
    clear hk
    unfold R4.val at CQ ⊢
    go_enter Try.func13, Try.ntmps13
    go_wp2_with fail
    refine (CK.out _).mono ?_
    rintro e w1 ⟨rfl, rfl⟩
    go_wp2_with fail
    refine (CQ.out _).mono ?_
    rintro e w2 ⟨rfl, k2⟩
    have K3 := hide (K2.out.trans0 k2)
    clear k2
    go_wp2_with fail
    go_ret2
    exact ⟨rfl, K3.out⟩
  · unfold lessA lessE
    rw [if_neg hk, if_neg hk]
    rw [show decide (k = 1 ∨ k = 2 ∨ k = 3) = false by simpa using hk] at CK
    clear hk CQ
    unfold R4.val
    go_enter Try.func13, Try.ntmps13
    go_wp2_with fail
    refine (CK.out _).mono ?_
    rintro e w1 ⟨rfl, rfl⟩
    go_wp2_with fail
    go_ret2
    exact ⟨rfl, K2.out⟩
end Go.Proofs.Ytiebmjdclicheaa
