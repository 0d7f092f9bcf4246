import Derived.Test.YtomgdleoegaooaaRows
import Derived.WalkKit
import Derived.WalkSpells
import Derived.WalkLawsBesides
import Derived.Test.YtomgdleoegaooaaShelf
set_option linter.unusedVariables false
set_option linter.unusedSimpArgs false
namespace Go.Proofs.Ytomgdleoegaooaa
open Go.RowKit

def I64 (n : Int) : Prop := -9223372036854775808 ≤ n ∧ n ≤ 9223372036854775807

theorem w64_dec (n : Int) : wrap64 n = n ∨ True := by simp

theorem add_fit (a b : Int) : decide (a ≤ a + b) = decide (0 ≤ b) := by
  by_cases h0 : 0 ≤ b <;> simp [h0] <;> omega
theorem add_over {a b : Int} (ha : I64 a) (hb : I64 b) (h : ¬ I64 (a + b)) : decide (a ≤ wrap64 (a + b)) = !decide (0 ≤ b) := by
  unfold I64 at *; unfold wrap64
  by_cases h0 : 0 ≤ b <;> simp [h0] <;> omega
theorem sub_fit (a b : Int) : decide (a - b ≤ a) = decide (0 ≤ b) := by
  by_cases h0 : 0 ≤ b <;> simp [h0] <;> omega
theorem sub_over {a b : Int} (ha : I64 a) (hb : I64 b) (h : ¬ I64 (a - b)) : decide (wrap64 (a - b) ≤ a) = !decide (0 ≤ b) := by
  unfold I64 at *; unfold wrap64
  by_cases h0 : 0 ≤ b <;> simp [h0] <;> omega

set_option maxHeartbeats 400000 in
theorem add_ok (a b : Int) (w : World) (ha : I64 a) (hb : I64 b) (h : I64 (a + b)) :
    Calls Try.prog 13 #[.int .i64 a, .int .i64 b] w fun e w' => e = .returned (.tuple #[.int .i64 (a+b), .int .i64 0]) ∧ w = w' := by
  unfold I64 at *
  have hd := add_fit a b
  by_cases h0 : 0 ≤ b
  all_goals
    simp only [h0, decide_true, decide_false] at hd
    go_enter Try.func13, Try.ntmps13
    go_wp2
    go_ret2
    exact ⟨rfl, rfl⟩

set_option maxHeartbeats 400000 in
theorem add_no (a b : Int) (w : World) (ha : I64 a) (hb : I64 b) (h : ¬ I64 (a + b)) :
    Calls Try.prog 13 #[.int .i64 a, .int .i64 b] w fun e w' => e = .returned (.tuple #[.int .i64 0, .int .i64 7]) ∧ w = w' := by
  have hd := add_over ha hb h
  clear h ha hb
  by_cases h0 : 0 ≤ b
  all_goals
    simp only [h0, decide_true, decide_false, Bool.not_true, Bool.not_false] at hd
    go_enter Try.func13, Try.ntmps13
    go_wp2
    go_ret2
    exact ⟨rfl, rfl⟩

set_option maxHeartbeats 400000 in
theorem sub_ok (a b : Int) (w : World) (ha : I64 a) (hb : I64 b) (h : I64 (a - b)) :
    Calls Try.prog 15 #[.int .i64 a, .int .i64 b] w fun e w' => e = .returned (.tuple #[.int .i64 (a-b), .int .i64 0]) ∧ w = w' := by
  unfold I64 at *
  have hd := sub_fit a b
  by_cases h0 : 0 ≤ b
  all_goals
    simp only [h0, decide_true, decide_false] at hd
    go_enter Try.func15, Try.ntmps15
    go_wp2
    go_ret2
    exact ⟨rfl, rfl⟩

set_option maxHeartbeats 400000 in
theorem sub_no (a b : Int) (w : World) (ha : I64 a) (hb : I64 b) (h : ¬ I64 (a - b)) :
    Calls Try.prog 15 #[.int .i64 a, .int .i64 b] w fun e w' => e = .returned (.tuple #[.int .i64 0, .int .i64 7]) ∧ w = w' := by
  have hd := sub_over ha hb h
  clear h ha hb
  by_cases h0 : 0 ≤ b
  all_goals
    simp only [h0, decide_true, decide_false, Bool.not_true, Bool.not_false] at hd
    go_enter Try.func15, Try.ntmps15
    go_wp2
    go_ret2
    exact ⟨rfl, rfl⟩

def whi (p : Int) : Int := p / 18446744073709551616 % 18446744073709551616
def wlo (p : Int) : Int := p % 18446744073709551616
def U64 (n : Int) : Prop := 0 ≤ n ∧ n ≤ 18446744073709551615
def uw (n : Int) : Int := IntKind.u64.wrap n
theorem uw_eq (n : Int) : uw n = n % 18446744073709551616 := by unfold uw; rw [IntKind.wrap_u64]
theorem uw_bd (n : Int) : U64 (uw n) := by rw [uw_eq]; unfold U64; omega
theorem whi_bd (p : Int) : U64 (whi p) := by unfold whi U64; omega
theorem wlo_bd (p : Int) : U64 (wlo p) := by unfold wlo U64; omega

theorem mul64 (x y : Int) (hx : U64 x) (hy : U64 y) (w : World) :
    Calls Try.prog 49 #[.int .u64 x, .int .u64 y] w fun e w' => e = .returned (.tuple #[.int .u64 (whi (x * y)), .int .u64 (wlo (x * y))]) ∧ w = w' := by
  unfold U64 at hx hy
  obtain ⟨n, rfl⟩ := Int.eq_ofNat_of_zero_le hx.1
  obtain ⟨m, rfl⟩ := Int.eq_ofNat_of_zero_le hy.1
  refine (Try.bits_Mul64 n m (by omega) (by omega) w).mono ?_
  rintro e w' ⟨rfl, rfl⟩
  refine ⟨?_, rfl⟩
  have hp : n * m ≤ 18446744073709551615 * 18446744073709551615 := Nat.mul_le_mul (by omega) (by omega)
  have e1 : ((n * m / 18446744073709551616 : Nat) : Int) = whi (n * m) := by
    unfold whi; rw [← Int.natCast_mul]; generalize n * m = k at *; omega
  have e2 : ((n * m % 18446744073709551616 : Nat) : Int) = wlo (n * m) := by
    unfold wlo; rw [← Int.natCast_mul]; generalize n * m = k at *; omega
  rw [e1, e2]

theorem m00 (p : Int) : (p / 18446744073709551616 % 18446744073709551616) % 18446744073709551616 = p / 18446744073709551616 % 18446744073709551616 := by omega
theorem m10 (p b : Int) : ((p + 18446744073709551616 * b) / 18446744073709551616 % 18446744073709551616 - b) % 18446744073709551616 = p / 18446744073709551616 % 18446744073709551616 ∧ (p + 18446744073709551616 * b) % 18446744073709551616 = p % 18446744073709551616 := by omega
theorem m11 (p a b : Int) : ((p + 18446744073709551616 * b + 18446744073709551616 * a + 18446744073709551616 * 18446744073709551616) / 18446744073709551616 % 18446744073709551616 - (b + 18446744073709551616) - (a + 18446744073709551616)) % 18446744073709551616 = p / 18446744073709551616 % 18446744073709551616 ∧ (p + 18446744073709551616 * b + 18446744073709551616 * a + 18446744073709551616 * 18446744073709551616) % 18446744073709551616 = p % 18446744073709551616 := by omega
theorem uw_pos {a : Int} (ha : I64 a) (h : ¬ a < 0) : uw a = a := by rw [uw_eq]; unfold I64 at ha; omega
theorem uw_neg {a : Int} (ha : I64 a) (h : a < 0) : uw a = a + 18446744073709551616 := by rw [uw_eq]; unfold I64 at ha; omega
/-- the product of two wrapped numbers, its upper half mended -/
theorem prod_pp {a b : Int} (ha : I64 a) (hb : I64 b) (h1 : ¬ a < 0) (h2 : ¬ b < 0) : whi (uw a * uw b) = whi (a * b) ∧ wlo (uw a * uw b) = wlo (a * b) := by
  rw [uw_pos ha h1, uw_pos hb h2]; exact ⟨rfl, rfl⟩
theorem prod_np {a b : Int} (ha : I64 a) (hb : I64 b) (h1 : a < 0) (h2 : ¬ b < 0) : (whi (uw a * uw b) - uw b) % 18446744073709551616 = whi (a * b) ∧ wlo (uw a * uw b) = wlo (a * b) := by
  rw [uw_neg ha h1, uw_pos hb h2, Int.add_mul]; exact m10 _ _
theorem prod_pn {a b : Int} (ha : I64 a) (hb : I64 b) (h1 : ¬ a < 0) (h2 : b < 0) : (whi (uw a * uw b) - uw a) % 18446744073709551616 = whi (a * b) ∧ wlo (uw a * uw b) = wlo (a * b) := by
  rw [uw_pos ha h1, uw_neg hb h2, Int.mul_add, Int.mul_comm a 18446744073709551616]; exact m10 _ _
theorem prod_nn {a b : Int} (ha : I64 a) (hb : I64 b) (h1 : a < 0) (h2 : b < 0) : (whi (uw a * uw b) - uw b - uw a) % 18446744073709551616 = whi (a * b) ∧ wlo (uw a * uw b) = wlo (a * b) := by
  rw [uw_neg ha h1, uw_neg hb h2, Int.add_mul, Int.mul_add, Int.mul_add, Int.mul_comm a 18446744073709551616, ← Int.add_assoc]
  have := m11 (a * b) a b
  have e : a * b + 18446744073709551616 * a + 18446744073709551616 * b + 18446744073709551616 * 18446744073709551616 = a * b + 18446744073709551616 * b + 18446744073709551616 * a + 18446744073709551616 * 18446744073709551616 := by omega
  rw [e]
  exact this
theorem uw_uw (x y : Int) : uw (uw x - y) = uw (x - y) := by rw [uw_eq, uw_eq, uw_eq]; omega

/-- what a walk leaves of 'hi -= uint64(b)' -/
theorem pre_np {a b : Int} (ha : I64 a) (hb : I64 b) (h1 : a < 0) (h2 : ¬ b < 0) : uw (whi (uw a * uw b) - uw b) = whi (a * b) := by rw [uw_eq]; exact (prod_np ha hb h1 h2).1
theorem pre_pn {a b : Int} (ha : I64 a) (hb : I64 b) (h1 : ¬ a < 0) (h2 : b < 0) : uw (whi (uw a * uw b) - uw a) = whi (a * b) := by rw [uw_eq]; exact (prod_pn ha hb h1 h2).1
theorem pre_nn {a b : Int} (ha : I64 a) (hb : I64 b) (h1 : a < 0) (h2 : b < 0) : uw (uw (whi (uw a * uw b) - uw b) - uw a) = whi (a * b) := by rw [uw_uw, uw_eq]; exact (prod_nn ha hb h1 h2).1

set_option maxHeartbeats 400000 in
theorem product (a b : Int) (ha : I64 a) (hb : I64 b) (w : World) :
    Calls Try.prog 33 #[.int .i64 a, .int .i64 b] w fun e w' => e = .returned (.agg #[.int .u64 (whi (a * b)), .int .u64 (wlo (a * b))]) ∧ Below w.heap.size w w' := by
  have ma := uw_bd a
  have mb := uw_bd b
  by_cases h1 : a < 0 <;> by_cases h2 : b < 0
  · have H := prod_nn ha hb h1 h2
    have P : IntKind.u64.wrap (IntKind.u64.wrap (whi (uw a * uw b) - IntKind.u64.wrap b) - IntKind.u64.wrap a) = whi (a * b) := pre_nn ha hb h1 h2
    go_enter Try.func33, Try.ntmps33
    go_wp2_with fail
    refine (mul64 (uw a) (uw b) ma mb _).mono ?_
    rintro e w' ⟨rfl, rfl⟩
    rw [H.2]
    clear H
    go_wp2
    exact bodyPost_ret (v := .agg #[.int .u64 (whi (a * b)), .int .u64 (wlo (a * b))]) (by simp [results, Try.results33, go_sem, P]) rfl ⟨rfl, (Below.refl _ _).alloc (Nat.le_refl _) _⟩
  · have H := prod_np ha hb h1 h2
    have P : IntKind.u64.wrap (whi (uw a * uw b) - IntKind.u64.wrap b) = whi (a * b) := pre_np ha hb h1 h2
    go_enter Try.func33, Try.ntmps33
    go_wp2_with fail
    refine (mul64 (uw a) (uw b) ma mb _).mono ?_
    rintro e w' ⟨rfl, rfl⟩
    rw [H.2]
    clear H
    go_wp2
    exact bodyPost_ret (v := .agg #[.int .u64 (whi (a * b)), .int .u64 (wlo (a * b))]) (by simp [results, Try.results33, go_sem, P]) rfl ⟨rfl, (Below.refl _ _).alloc (Nat.le_refl _) _⟩
  · have H := prod_pn ha hb h1 h2
    have P : IntKind.u64.wrap (whi (uw a * uw b) - IntKind.u64.wrap a) = whi (a * b) := pre_pn ha hb h1 h2
    go_enter Try.func33, Try.ntmps33
    go_wp2_with fail
    refine (mul64 (uw a) (uw b) ma mb _).mono ?_
    rintro e w' ⟨rfl, rfl⟩
    rw [H.2]
    clear H
    go_wp2
    exact bodyPost_ret (v := .agg #[.int .u64 (whi (a * b)), .int .u64 (wlo (a * b))]) (by simp [results, Try.results33, go_sem, P]) rfl ⟨rfl, (Below.refl _ _).alloc (Nat.le_refl _) _⟩
  · have H := prod_pp ha hb h1 h2
    go_enter Try.func33, Try.ntmps33
    go_wp2_with fail
    refine (mul64 (uw a) (uw b) ma mb _).mono ?_
    rintro e w' ⟨rfl, rfl⟩
    rw [H.1, H.2]
    clear H
    go_wp2
    exact bodyPost_ret (v := .agg #[.int .u64 (whi (a * b)), .int .u64 (wlo (a * b))]) (by simp [results, Try.results33, go_sem]) rfl ⟨rfl, (Below.refl _ _).alloc (Nat.le_refl _) _⟩

/-- the numbers that 128 bits hold -/
def W128 (p : Int) : Prop := -170141183460469231731687303715884105728 ≤ p ∧ p < 170141183460469231731687303715884105728
theorem nar_lo (p : Int) : wrap64 (wlo p) = wrap64 p := by unfold wrap64 wlo; omega
theorem nar_ok {p : Int} (h : I64 p) : wrap64 (wlo p) = p ∧ whi p = IntKind.u64.wrap (p / 9223372036854775808) := by
  rw [nar_lo, show IntKind.u64.wrap (p / 9223372036854775808) = uw _ from rfl, uw_eq]; unfold I64 at h; unfold wrap64 whi; omega
theorem nar_no {p : Int} (hp : W128 p) (h : ¬ I64 p) : (whi p != IntKind.u64.wrap (wrap64 (wlo p) / 9223372036854775808)) = true := by
  rw [bne_iff_ne, nar_lo, show IntKind.u64.wrap (wrap64 p / 9223372036854775808) = uw _ from rfl, uw_eq]; unfold I64 at h; unfold W128 at hp; unfold wrap64 whi; omega

set_option maxHeartbeats 400000 in
theorem narrow_ok (p : Int) (h : I64 p) (w : World) :
    Calls Try.prog 34 #[.agg #[.int .u64 (whi p), .int .u64 (wlo p)]] w fun e w' => e = .returned (.tuple #[.int .i64 p, .int .i64 0]) ∧ Below w.heap.size w w' := by
  have h1 := (nar_ok h).1
  have h2 : (whi p != IntKind.u64.wrap (p / 9223372036854775808)) = false := by rw [← (nar_ok h).2]; simp
  go_enter Try.func34, Try.ntmps34
  go_wp2
  go_ret2
  exact ⟨by simp [h1], (Below.refl _ _).alloc (Nat.le_refl _) _⟩
set_option maxHeartbeats 400000 in
theorem narrow_no (p : Int) (hp : W128 p) (h : ¬ I64 p) (w : World) :
    Calls Try.prog 34 #[.agg #[.int .u64 (whi p), .int .u64 (wlo p)]] w fun e w' => e = .returned (.tuple #[.int .i64 0, .int .i64 7]) ∧ Below w.heap.size w w' := by
  have h2 := nar_no hp h
  clear h
  go_enter Try.func34, Try.ntmps34
  go_wp2
  go_ret2
  exact ⟨rfl, (Below.refl _ _).alloc (Nat.le_refl _) _⟩
end Go.Proofs.Ytomgdleoegaooaa
