/- checked.Compare: the order of two fractions, by 128 bits. -/
import Derived.Test.YtenoalfjobghnaaW0
import Derived.WalkSpells
import Derived.Deep.RegionHeld3
import Derived.Shelf.Bits.Mul64
set_option linter.unusedVariables false
set_option linter.unusedSimpArgs false
namespace Go.Proofs
open Go.Shelf
def Try.lays264_ren : Go.Shelf.Ren := ⟨fun | 264 => 56 | n => n, fun | 53 => 79 | 46 => 100 | n => n, fun | n => n⟩
theorem Try.lays264 : Go.Proofs.Lays.n264 Try.prog Try.lays264_ren := {
  mixed := by kernel_rfl
  f264 := Try.func56.trans (congrArg some (by kernel_rfl))
  t46 := Try.underlying100
  a46 := Try.isAgg100
  z46 := Try.sizeOf100
  v46 := Try.zeroValue100
  t53 := Try.underlying79
  a53 := Try.isAgg79
  z53 := Try.sizeOf79
  v53 := Try.zeroValue79 }
open Go.RowKit Go.Lib in
theorem Try.bits_Mul64 (x y : Nat) (hx : x < 18446744073709551616) (hy : y < 18446744073709551616) (w : World) :
    Calls Try.prog 56 #[.int .u64 x, .int .u64 y] w fun e w' => e = .returned (.tuple #[.int .u64 ((x * y / 18446744073709551616 : Nat) : Int), .int .u64 ((x * y % 18446744073709551616 : Nat) : Int)]) ∧ w' = w := Any.bits_Mul64 Try.lays264 x y hx hy w
end Go.Proofs
namespace Go.Proofs.Ytenoalfjobghnaa
open Go.RowKit
def whi (p : Int) : Int := p / 18446744073709551616 % 18446744073709551616
def wlo (p : Int) : Int := p % 18446744073709551616
def U64 (n : Int) : Prop := 0 ≤ n ∧ n ≤ 18446744073709551615
def uw (n : Int) : Int := IntKind.u64.wrap n
theorem uw_eq (n : Int) : uw n = n % 18446744073709551616 := by unfold uw; rw [IntKind.wrap_u64]
theorem uw_bd (n : Int) : U64 (uw n) := by rw [uw_eq]; unfold U64; omega
theorem whi_bd (p : Int) : U64 (whi p) := by unfold whi U64; omega
theorem wlo_bd (p : Int) : U64 (wlo p) := by unfold wlo U64; omega
theorem mul64 (x y : Int) (hx : U64 x) (hy : U64 y) (w : World) :
    Calls Try.prog 56 #[.int .u64 x, .int .u64 y] w fun e w' => e = .returned (.tuple #[.int .u64 (whi (x * y)), .int .u64 (wlo (x * y))]) ∧ w = w' := by
  unfold U64 at hx hy
  obtain ⟨n, rfl⟩ := Int.eq_ofNat_of_zero_le hx.1
  obtain ⟨m, rfl⟩ := Int.eq_ofNat_of_zero_le hy.1
  refine (Try.bits_Mul64 n m (by omega) (by omega) w).mono ?_
  rintro e w' ⟨rfl, rfl⟩
  refine ⟨?_, rfl⟩
  have hp : n * m ≤ 18446744073709551615 * 18446744073709551615 := Nat.mul_le_mul (by omega) (by omega)
  have e1 : ((n * m / 18446744073709551616 : Nat) : Int) = whi (n * m) := by
    unfold whi; rw [← Int.natCast_mul]; generalize n * m = k at *; omega
  have e2 : ((n * m % 18446744073709551616 : Nat) : Int) = wlo (n * m) := by
    unfold wlo; rw [← Int.natCast_mul]; generalize n * m = k at *; omega
  rw [e1, e2]
theorem m00 (p : Int) : (p / 18446744073709551616 % 18446744073709551616) % 18446744073709551616 = p / 18446744073709551616 % 18446744073709551616 := by omega
theorem m10 (p b : Int) : ((p + 18446744073709551616 * b) / 18446744073709551616 % 18446744073709551616 - b) % 18446744073709551616 = p / 18446744073709551616 % 18446744073709551616 ∧ (p + 18446744073709551616 * b) % 18446744073709551616 = p % 18446744073709551616 := by omega
theorem m11 (p a b : Int) : ((p + 18446744073709551616 * b + 18446744073709551616 * a + 18446744073709551616 * 18446744073709551616) / 18446744073709551616 % 18446744073709551616 - (b + 18446744073709551616) - (a + 18446744073709551616)) % 18446744073709551616 = p / 18446744073709551616 % 18446744073709551616 ∧ (p + 18446744073709551616 * b + 18446744073709551616 * a + 18446744073709551616 * 18446744073709551616) % 18446744073709551616 = p % 18446744073709551616 := by omega
theorem uw_pos {a : Int} (ha : I64 a) (h : ¬ a < 0) : uw a = a := by rw [uw_eq]; unfold I64 at ha; omega
theorem uw_neg {a : Int} (ha : I64 a) (h : a < 0) : uw a = a + 18446744073709551616 := by rw [uw_eq]; unfold I64 at ha; omega
/-- the product of two wrapped numbers, its upper half mended -/
theorem prod_pp {a b : Int} (ha : I64 a) (hb : I64 b) (h1 : ¬ a < 0) (h2 : ¬ b < 0) : whi (uw a * uw b) = whi (a * b) ∧ wlo (uw a * uw b) = wlo (a * b) := by
  rw [uw_pos ha h1, uw_pos hb h2]; exact ⟨rfl, rfl⟩
theorem prod_np {a b : Int} (ha : I64 a) (hb : I64 b) (h1 : a < 0) (h2 : ¬ b < 0) : (whi (uw a * uw b) - uw b) % 18446744073709551616 = whi (a * b) ∧ wlo (uw a * uw b) = wlo (a * b) := by
  rw [uw_neg ha h1, uw_pos hb h2, Int.add_mul]; exact m10 _ _
theorem prod_pn {a b : Int} (ha : I64 a) (hb : I64 b) (h1 : ¬ a < 0) (h2 : b < 0) : (whi (uw a * uw b) - uw a) % 18446744073709551616 = whi (a * b) ∧ wlo (uw a * uw b) = wlo (a * b) := by
  rw [uw_pos ha h1, uw_neg hb h2, Int.mul_add, Int.mul_comm a 18446744073709551616]; exact m10 _ _
theorem prod_nn {a b : Int} (ha : I64 a) (hb : I64 b) (h1 : a < 0) (h2 : b < 0) : (whi (uw a * uw b) - uw b - uw a) % 18446744073709551616 = whi (a * b) ∧ wlo (uw a * uw b) = wlo (a * b) := by
  rw [uw_neg ha h1, uw_neg hb h2, Int.add_mul, Int.mul_add, Int.mul_add, Int.mul_comm a 18446744073709551616, ← Int.add_assoc]
  have := m11 (a * b) a b
  have e : a * b + 18446744073709551616 * a + 18446744073709551616 * b + 18446744073709551616 * 18446744073709551616 = a * b + 18446744073709551616 * b + 18446744073709551616 * a + 18446744073709551616 * 18446744073709551616 := by omega
  rw [e]
  exact this
theorem uw_uw (x y : Int) : uw (uw x - y) = uw (x - y) := by rw [uw_eq, uw_eq, uw_eq]; omega
/-- what a walk leaves of 'hi -= uint64(b)' -/
theorem pre_np {a b : Int} (ha : I64 a) (hb : I64 b) (h1 : a < 0) (h2 : ¬ b < 0) : uw (whi (uw a * uw b) - uw b) = whi (a * b) := by rw [uw_eq]; exact (prod_np ha hb h1 h2).1
theorem pre_pn {a b : Int} (ha : I64 a) (hb : I64 b) (h1 : ¬ a < 0) (h2 : b < 0) : uw (whi (uw a * uw b) - uw a) = whi (a * b) := by rw [uw_eq]; exact (prod_pn ha hb h1 h2).1
theorem pre_nn {a b : Int} (ha : I64 a) (hb : I64 b) (h1 : a < 0) (h2 : b < 0) : uw (uw (whi (uw a * uw b) - uw b) - uw a) = whi (a * b) := by rw [uw_uw, uw_eq]; exact (prod_nn ha hb h1 h2).1
set_option maxHeartbeats 400000 in
theorem product (a b : Int) (ha : I64 a) (hb : I64 b) (w : World) :
    Calls Try.prog 50 #[.int .i64 a, .int .i64 b] w fun e w' => e = .returned (.agg #[.int .u64 (whi (a * b)), .int .u64 (wlo (a * b))]) ∧ Below w.heap.size w w' := by
  have ma := uw_bd a
  have mb := uw_bd b
  by_cases h1 : a < 0 <;> by_cases h2 : b < 0
  · have H := prod_nn ha hb h1 h2
    have P : IntKind.u64.wrap (IntKind.u64.wrap (whi (uw a * uw b) - IntKind.u64.wrap b) - IntKind.u64.wrap a) = whi (a * b) := pre_nn ha hb h1 h2
    go_enter Try.func50, Try.ntmps50
    go_wp2_with fail
    refine (mul64 (uw a) (uw b) ma mb _).mono ?_
    rintro e w' ⟨rfl, rfl⟩
    rw [H.2]
    clear H
    go_wp2
    exact bodyPost_ret (v := .agg #[.int .u64 (whi (a * b)), .int .u64 (wlo (a * b))]) (by simp [results, Try.results50, go_sem, P]) rfl ⟨rfl, (Below.refl _ _).alloc (Nat.le_refl _) _⟩
  · have H := prod_np ha hb h1 h2
    have P : IntKind.u64.wrap (whi (uw a * uw b) - IntKind.u64.wrap b) = whi (a * b) := pre_np ha hb h1 h2
    go_enter Try.func50, Try.ntmps50
    go_wp2_with fail
    refine (mul64 (uw a) (uw b) ma mb _).mono ?_
    rintro e w' ⟨rfl, rfl⟩
    rw [H.2]
    clear H
    go_wp2
    exact bodyPost_ret (v := .agg #[.int .u64 (whi (a * b)), .int .u64 (wlo (a * b))]) (by simp [results, Try.results50, go_sem, P]) rfl ⟨rfl, (Below.refl _ _).alloc (Nat.le_refl _) _⟩
  · have H := prod_pn ha hb h1 h2
    have P : IntKind.u64.wrap (whi (uw a * uw b) - IntKind.u64.wrap a) = whi (a * b) := pre_pn ha hb h1 h2
    go_enter Try.func50, Try.ntmps50
    go_wp2_with fail
    refine (mul64 (uw a) (uw b) ma mb _).mono ?_
    rintro e w' ⟨rfl, rfl⟩
    rw [H.2]
    clear H
    go_wp2
    exact bodyPost_ret (v := .agg #[.int .u64 (whi (a * b)), .int .u64 (wlo (a * b))]) (by simp [results, Try.results50, go_sem, P]) rfl ⟨rfl, (Below.refl _ _).alloc (Nat.le_refl _) _⟩
  · have H := prod_pp ha hb h1 h2
    go_enter Try.func50, Try.ntmps50
    go_wp2_with fail
    refine (mul64 (uw a) (uw b) ma mb _).mono ?_
    rintro e w' ⟨rfl, rfl⟩
    rw [H.1, H.2]
    clear H
    go_wp2
    exact bodyPost_ret (v := .agg #[.int .u64 (whi (a * b)), .int .u64 (wlo (a * b))]) (by simp [results, Try.results50, go_sem]) rfl ⟨rfl, (Below.refl _ _).alloc (Nat.le_refl _) _⟩
/-- the numbers that 128 bits hold -/
def W128 (p : Int) : Prop := -170141183460469231731687303715884105728 ≤ p ∧ p < 170141183460469231731687303715884105728
set_option maxHeartbeats 400000 in
theorem cmpi (x y : Int) (hx : I64 x) (hy : I64 y) (w : World) :
    Calls Try.prog 57 #[.int .i64 x, .int .i64 y] w fun e w' => e = .returned (.int .i64 (sgn x y)) ∧ w = w' := by
  rcases Int.lt_trichotomy x y with h | rfl | h
  · rw [sgn_lt h]
    go_enter Try.func57, Try.ntmps57
    go_wp2
    go_ret
    exact ⟨rfl, rfl⟩
  · rw [sgn_eq]
    go_enter Try.func57, Try.ntmps57
    go_wp2
    go_ret
    exact ⟨rfl, rfl⟩
  · rw [sgn_gt h]
    go_enter Try.func57, Try.ntmps57
    go_wp2
    go_ret
    exact ⟨rfl, rfl⟩
set_option maxHeartbeats 400000 in
theorem cmpu (x y : Int) (hx : U64 x) (hy : U64 y) (w : World) :
    Calls Try.prog 58 #[.int .u64 x, .int .u64 y] w fun e w' => e = .returned (.int .i64 (sgn x y)) ∧ w = w' := by
  rcases Int.lt_trichotomy x y with h | rfl | h
  · rw [sgn_lt h]
    go_enter Try.func58, Try.ntmps58
    go_wp2
    go_ret
    exact ⟨rfl, rfl⟩
  · rw [sgn_eq]
    go_enter Try.func58, Try.ntmps58
    go_wp2
    go_ret
    exact ⟨rfl, rfl⟩
  · rw [sgn_gt h]
    go_enter Try.func58, Try.ntmps58
    go_wp2
    go_ret
    exact ⟨rfl, rfl⟩
theorem w128_eq {p v : Int} (hp : W128 p) (hv : W128 v) (h : whi p = whi v) : p / 18446744073709551616 = v / 18446744073709551616 := by
  unfold whi at h; unfold W128 at *; omega
theorem w128_hi {p : Int} (hp : W128 p) : wrap64 (whi p) = p / 18446744073709551616 := by
  unfold whi wrap64; unfold W128 at *; omega
theorem whi_i64 (p : Int) : I64 (wrap64 (whi p)) := by unfold wrap64 I64; omega
theorem sgn_hi {p v : Int} (hp : W128 p) (hv : W128 v) (h : whi p ≠ whi v) : sgn (wrap64 (whi p)) (wrap64 (whi v)) = sgn p v := by
  have hne : p / 18446744073709551616 ≠ v / 18446744073709551616 := fun e => h (by unfold whi; rw [e])
  rw [w128_hi hp, w128_hi hv]
  unfold sgn
  repeat' split
  all_goals omega
theorem sgn_lo {p v : Int} (hp : W128 p) (hv : W128 v) (h : whi p = whi v) : sgn (wlo p) (wlo v) = sgn p v := by
  have := w128_eq hp hv h
  unfold sgn wlo
  repeat' split
  all_goals omega
set_option maxHeartbeats 400000 in
theorem compare (p v : Int) (hp : W128 p) (hv : W128 v) (w : World) :
    Calls Try.prog 51 #[.agg #[.int .u64 (whi p), .int .u64 (wlo p)], .agg #[.int .u64 (whi v), .int .u64 (wlo v)]] w fun e w' => e = .returned (.int .i64 (sgn p v)) ∧ Below w.heap.size w w' := by
  by_cases h : whi p = whi v
  · have hb : (whi p != whi v) = false := by rw [h]; simp
    have S := hide (sgn_lo hp hv h)
    clear h
    go_enter Try.func51, Try.ntmps51
    go_wp2_with fail
    refine (cmpu _ _ (wlo_bd p) (wlo_bd v) _).mono ?_
    rintro e w' ⟨rfl, rfl⟩
    go_wp2
    go_ret
    exact ⟨ret1 S.out, ((Below.refl _ _).alloc (Nat.le_refl _) _).alloc (by simp) _⟩
  · have hb : (whi p != whi v) = true := by rw [bne_iff_ne]; exact h
    have S := hide (sgn_hi hp hv h)
    clear h
    go_enter Try.func51, Try.ntmps51
    go_wp2_with fail
    refine (cmpi _ _ (whi_i64 p) (whi_i64 v) _).mono ?_
    rintro e w' ⟨rfl, rfl⟩
    go_wp2
    go_ret
    exact ⟨ret1 S.out, ((Below.refl _ _).alloc (Nat.le_refl _) _).alloc (by simp) _⟩
theorem prod_w128 {a b : Int} (ha : I64 a) (hb : I64 b) : W128 (a * b) := by
  have h : (a * b).natAbs ≤ 9223372036854775808 * 9223372036854775808 := by
    rw [Int.natAbs_mul]; exact Nat.mul_le_mul (by unfold I64 at ha; omega) (by unfold I64 at hb; omega)
  unfold W128
  generalize a * b = p at *
  omega
/-- two blocks of two cells each, laid behind w -/
def S4 (w : World) (n d m f : Value) (w' : World) : Prop := w'.cell? ⟨w.heap.size, 0, none⟩ = some n ∧ w'.cell? ⟨w.heap.size, 1, none⟩ = some d ∧ w'.cell? ⟨w.heap.size + 1, 0, none⟩ = some m ∧ w'.cell? ⟨w.heap.size + 1, 1, none⟩ = some f ∧ Below w.heap.size w w' ∧ w.heap.size + 2 ≤ w'.heap.size
theorem S4.keep {w W w1 : World} {n d m f : Value} (b : Below W.heap.size W w1) (h : S4 w n d m f W) : S4 w n d m f w1 := by
  obtain ⟨c0, c1, c2, c3, bb, hz⟩ := h
  have k := (bcell b).1
  exact ⟨by rw [k _ _ (by omega), c0], by rw [k _ _ (by omega), c1], by rw [k _ _ (by omega), c2], by rw [k _ _ (by omega), c3], bb.trans (b.mono (by omega)), by have := b.size; omega⟩
set_option maxHeartbeats 1000000 in
theorem comp_ok (n d m f : Int) (hn : I64 n) (hd : I64 d) (hm : I64 m) (hf : I64 f) (h1 : 1 ≤ d) (h2 : 1 ≤ f) (w : World) :
    Calls Try.prog 45 #[.agg #[.int .i64 n, .int .i64 d], .agg #[.int .i64 m, .int .i64 f]] w fun e w' => e = .returned (.tuple #[.int .i64 (sgn (n * f) (m * d)), .int .i64 0]) ∧ Below w.heap.size w w' := by
  have hd1 : decide (d < 1) = false := by simp; omega
  have hf1 : decide (f < 1) = false := by simp; omega
  have q1 := prod_w128 hn hf
  have q2 := prod_w128 hm hd
  go_enter Try.func45, Try.ntmps45
  go_wp2_with fail
  have c0 : ((w.alloc (Obj.cells #[Value.int IntKind.i64 n, Value.int IntKind.i64 d] 75)).alloc (Obj.cells #[Value.int IntKind.i64 m, Value.int IntKind.i64 f] 75)).cell? ⟨w.heap.size, 0, none⟩ = some (.int .i64 n) := by simp [go_sem]
  have c1 : ((w.alloc (Obj.cells #[Value.int IntKind.i64 n, Value.int IntKind.i64 d] 75)).alloc (Obj.cells #[Value.int IntKind.i64 m, Value.int IntKind.i64 f] 75)).cell? ⟨w.heap.size, 1, none⟩ = some (.int .i64 d) := by simp [go_sem]
  have c2 : ((w.alloc (Obj.cells #[Value.int IntKind.i64 n, Value.int IntKind.i64 d] 75)).alloc (Obj.cells #[Value.int IntKind.i64 m, Value.int IntKind.i64 f] 75)).cell? ⟨w.heap.size + 1, 0, none⟩ = some (.int .i64 m) := by simp [go_sem]
  have c3 : ((w.alloc (Obj.cells #[Value.int IntKind.i64 n, Value.int IntKind.i64 d] 75)).alloc (Obj.cells #[Value.int IntKind.i64 m, Value.int IntKind.i64 f] 75)).cell? ⟨w.heap.size + 1, 1, none⟩ = some (.int .i64 f) := by simp [go_sem]
  have bb : Below w.heap.size w ((w.alloc (Obj.cells #[Value.int IntKind.i64 n, Value.int IntKind.i64 d] 75)).alloc (Obj.cells #[Value.int IntKind.i64 m, Value.int IntKind.i64 f] 75)) := ((Below.refl _ _).alloc (Nat.le_refl _) _).alloc (by simp) _
  have hz : w.heap.size + 2 ≤ ((w.alloc (Obj.cells #[Value.int IntKind.i64 n, Value.int IntKind.i64 d] 75)).alloc (Obj.cells #[Value.int IntKind.i64 m, Value.int IntKind.i64 f] 75)).heap.size := by simp
  generalize ((w.alloc (Obj.cells #[Value.int IntKind.i64 n, Value.int IntKind.i64 d] 75)).alloc (Obj.cells #[Value.int IntKind.i64 m, Value.int IntKind.i64 f] 75)) = W at *
  go_region_held3 (fun w' => w'.cell? ⟨w.heap.size, 0, none⟩ = some (.int .i64 n) ∧ w'.cell? ⟨w.heap.size, 1, none⟩ = some (.int .i64 d) ∧ w'.cell? ⟨w.heap.size + 1, 0, none⟩ = some (.int .i64 m) ∧ w'.cell? ⟨w.heap.size + 1, 1, none⟩ = some (.int .i64 f) ∧ Below w.heap.size w w' ∧ w.heap.size + 2 ≤ w'.heap.size)
    (first
      | exact ⟨c0, c1, c2, c3, bb.drew, hz⟩
      | exact S4.keep b1 ⟨c0, c1, c2, c3, bb.drew, hz⟩
      | exact S4.keep b2 (S4.keep b1 ⟨c0, c1, c2, c3, bb.drew, hz⟩)
      | exact S4.keep b3 (S4.keep b2 (S4.keep b1 ⟨c0, c1, c2, c3, bb.drew, hz⟩)))
    (first
      | (go_at_call_of 50 (Value.int .i64 n); refine (product n f hn hf _).mono ?_; rintro e w1 ⟨rfl, b1⟩)
      | (go_at_call_of 50 (Value.int .i64 m); refine (product m d hm hd _).mono ?_; rintro e w2 ⟨rfl, b2⟩)
      | (go_at_call 51; refine (compare (n * f) (m * d) q1 q2 _).mono ?_; rintro e w3 ⟨rfl, b3⟩))
  rename_i hk
  have hk' := hide hk.2.2.2.2.1
  clear hk
  go_wp2
  go_ret2
  exact ⟨rfl, hk'.out⟩
set_option maxHeartbeats 1000000 in
theorem comp_no (n d m f : Int) (h : d < 1 ∨ f < 1) (w : World) :
    Calls Try.prog 45 #[.agg #[.int .i64 n, .int .i64 d], .agg #[.int .i64 m, .int .i64 f]] w fun e w' => e = .returned (.tuple #[.int .i64 0, .int .i64 2]) ∧ Below w.heap.size w w' := by
  by_cases h1 : d < 1
  · have hd1 : decide (d < 1) = true := by simp; omega
    go_enter Try.func45, Try.ntmps45
    go_wp2_with fail
    go_ret2
    exact ⟨rfl, ((Below.refl _ _).alloc (Nat.le_refl _) _).alloc (by simp) _⟩
  · have hd1 : decide (d < 1) = false := by simp; omega
    have hf1 : decide (f < 1) = true := by simp; omega
    clear h
    go_enter Try.func45, Try.ntmps45
    go_wp2_with fail
    go_ret2
    exact ⟨rfl, ((Below.refl _ _).alloc (Nat.le_refl _) _).alloc (by simp) _⟩
end Go.Proofs.Ytenoalfjobghnaa
