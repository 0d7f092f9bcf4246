import Derived.Test.YtomgdleoegaooaaB
set_option linter.unusedVariables false
set_option linter.unusedSimpArgs false
namespace Go.Proofs.Ytomgdleoegaooaa
open Go.RowKit

theorem add64 (x y c : Int) (hx : 0 ≤ x) (hy : 0 ≤ y) (h0 : 0 ≤ c) (h1 : c ≤ 1) (w : World) :
    (callFunc 50 #[.int .u64 x, .int .u64 y, .int .u64 c]).run Try.prog w = .ok (.value (.tuple #[.int .u64 (wlo (x + y + c)), .int .u64 ((x + y + c) / 18446744073709551616)])) w := by
  rw [run_callFunc_extern Try.func50 (by kernel_rfl) (by kernel_rfl) (by kernel_rfl) (e := add64Entry) (by kernel_rfl), run_add64 x y c hx hy h0 h1]
  rfl

theorem plus_lo (p n : Int) : wlo (wlo p + uw n + 0) = wlo (p + n) := by rw [uw_eq]; unfold wlo; omega
theorem plus_hi (p n : Int) (hn : I64 n) : wlo (whi p + uw (n / 9223372036854775808) + (wlo p + uw n + 0) / 18446744073709551616) = whi (p + n) := by
  by_cases h : n < 0
  · have e1 : n / 9223372036854775808 = -1 := by unfold I64 at hn; omega
    rw [e1, uw_neg hn h, uw_eq]; unfold wlo whi; unfold I64 at hn; omega
  · have e1 : n / 9223372036854775808 = 0 := by unfold I64 at hn; omega
    rw [e1, uw_pos hn h, uw_eq]; unfold wlo whi; unfold I64 at hn; omega

set_option maxHeartbeats 400000 in
theorem plus (p n : Int) (hn : I64 n) (w : World) :
    Calls Try.prog 36 #[.agg #[.int .u64 (whi p), .int .u64 (wlo p)], .int .i64 n] w fun e w' => e = .returned (.agg #[.int .u64 (whi (p + n)), .int .u64 (wlo (p + n))]) ∧ Below w.heap.size w w' := by
  have a1 := fun w => add64 (wlo p) (uw n) 0 (wlo_bd p).1 (uw_bd n).1 (by omega) (by omega) w
  have cb : 0 ≤ (wlo p + uw n + 0) / 18446744073709551616 ∧ (wlo p + uw n + 0) / 18446744073709551616 ≤ 1 := by
    have := wlo_bd p; have := uw_bd n; unfold U64 at *; omega
  have a2 := fun w => add64 (whi p) (uw (n / 9223372036854775808)) ((wlo p + uw n + 0) / 18446744073709551616) (whi_bd p).1 (uw_bd _).1 cb.1 cb.2 w
  rw [plus_lo] at a1
  rw [plus_hi p n hn] at a2
  generalize (wlo p + uw n + 0) / 18446744073709551616 = cc at *
  simp only [show ∀ n, uw n = IntKind.u64.wrap n from fun _ => rfl] at a1 a2
  clear cb
  go_enter Try.func36, Try.ntmps36
  go_wp2_with (first | simp only [a1] | simp only [a2])
  exact bodyPost_ret (v := .agg #[.int .u64 (whi (p + n)), .int .u64 (wlo (p + n))]) (by simp [results, Try.results36, go_sem]) rfl ⟨rfl, ((Below.refl _ _).alloc (Nat.le_refl _) _).alloc (by simp) _⟩

theorem w128_eq {p v : Int} (hp : W128 p) (hv : W128 v) (h : whi p = whi v) : p / 18446744073709551616 = v / 18446744073709551616 := by
  unfold whi at h; unfold W128 at *; omega
theorem w128_hi {p : Int} (hp : W128 p) : wrap64 (whi p) = p / 18446744073709551616 := by
  unfold whi wrap64; unfold W128 at *; omega
theorem whi_i64 (p : Int) : I64 (wrap64 (whi p)) := by unfold wrap64 I64; omega
theorem sgn_hi {p v : Int} (hp : W128 p) (hv : W128 v) (h : whi p ≠ whi v) : sgn (wrap64 (whi p)) (wrap64 (whi v)) = sgn p v := by
  have hne : p / 18446744073709551616 ≠ v / 18446744073709551616 := fun e => h (by unfold whi; rw [e])
  rw [w128_hi hp, w128_hi hv]
  unfold sgn
  repeat' split
  all_goals omega
theorem sgn_lo {p v : Int} (hp : W128 p) (hv : W128 v) (h : whi p = whi v) : sgn (wlo p) (wlo v) = sgn p v := by
  have := w128_eq hp hv h
  unfold sgn wlo
  repeat' split
  all_goals omega

set_option maxHeartbeats 400000 in
theorem compare (p v : Int) (hp : W128 p) (hv : W128 v) (w : World) :
    Calls Try.prog 44 #[.agg #[.int .u64 (whi p), .int .u64 (wlo p)], .agg #[.int .u64 (whi v), .int .u64 (wlo v)]] w fun e w' => e = .returned (.int .i64 (sgn p v)) ∧ Below w.heap.size w w' := by
  by_cases h : whi p = whi v
  · have hb : (whi p != whi v) = false := by rw [h]; simp
    have S := hide (sgn_lo hp hv h)
    clear h
    go_enter Try.func44, Try.ntmps44
    go_wp2_with fail
    refine (cmpu _ _ (wlo_bd p) (wlo_bd v) _).mono ?_
    rintro e w' ⟨rfl, rfl⟩
    go_wp2
    go_ret
    exact ⟨ret1 S.out, ((Below.refl _ _).alloc (Nat.le_refl _) _).alloc (by simp) _⟩
  · have hb : (whi p != whi v) = true := by rw [bne_iff_ne]; exact h
    have S := hide (sgn_hi hp hv h)
    clear h
    go_enter Try.func44, Try.ntmps44
    go_wp2_with fail
    refine (cmpi _ _ (whi_i64 p) (whi_i64 v) _).mono ?_
    rintro e w' ⟨rfl, rfl⟩
    go_wp2
    go_ret
    exact ⟨ret1 S.out, ((Below.refl _ _).alloc (Nat.le_refl _) _).alloc (by simp) _⟩

theorem prod_w128 {a b : Int} (ha : I64 a) (hb : I64 b) : W128 (a * b) := by
  have h : (a * b).natAbs ≤ 9223372036854775808 * 9223372036854775808 := by
    rw [Int.natAbs_mul]; exact Nat.mul_le_mul (by unfold I64 at ha; omega) (by unfold I64 at hb; omega)
  unfold W128
  generalize a * b = p at *
  omega

set_option maxHeartbeats 400000 in
theorem mul_ok (a b : Int) (ha : I64 a) (hb : I64 b) (h : I64 (a * b)) (w : World) :
    Calls Try.prog 17 #[.int .i64 a, .int .i64 b] w fun e w' => e = .returned (.tuple #[.int .i64 (a * b), .int .i64 0]) ∧ Below w.heap.size w w' := by
  have H := hide h
  clear h
  go_enter Try.func17, Try.ntmps17
  go_wp2_with fail
  refine (product a b ha hb _).mono ?_
  rintro e w1 ⟨rfl, b1⟩
  go_wp2_with fail
  refine (narrow_ok (a * b) H.out _).mono ?_
  rintro e w2 ⟨rfl, b2⟩
  go_wp2
  go_ret2
  exact ⟨rfl, b1.trans (b2.mono b1.size)⟩
set_option maxHeartbeats 400000 in
theorem mul_no (a b : Int) (ha : I64 a) (hb : I64 b) (h : ¬ I64 (a * b)) (w : World) :
    Calls Try.prog 17 #[.int .i64 a, .int .i64 b] w fun e w' => e = .returned (.tuple #[.int .i64 0, .int .i64 7]) ∧ Below w.heap.size w w' := by
  have H := hide h
  clear h
  go_enter Try.func17, Try.ntmps17
  go_wp2_with fail
  refine (product a b ha hb _).mono ?_
  rintro e w1 ⟨rfl, b1⟩
  go_wp2_with fail
  refine (narrow_no (a * b) (prod_w128 ha hb) H.out _).mono ?_
  rintro e w2 ⟨rfl, b2⟩
  go_wp2
  go_ret2
  exact ⟨rfl, b1.trans (b2.mono b1.size)⟩

end Go.Proofs.Ytomgdleoegaooaa
