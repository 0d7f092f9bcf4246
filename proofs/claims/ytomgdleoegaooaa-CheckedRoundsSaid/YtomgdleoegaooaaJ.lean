import Derived.Test.YtomgdleoegaooaaI
import Derived.Laws.DeepNot64
set_option linter.unusedVariables false
set_option linter.unusedSimpArgs false
namespace Go.Proofs.Ytomgdleoegaooaa
open Go.RowKit

theorem u64_not (a : Nat) (ha : a < 18446744073709551616) : bits .xor .u64 IntKind.u64.max (a : Int) = ((18446744073709551615 - a : Nat) : Int) := by
  have h := bits_xor_u64_nat 18446744073709551615 a (by omega) ha
  have e : (18446744073709551615 ^^^ a) = 18446744073709551615 - a := by
    have k := congrArg BitVec.toNat (BitVec.allOnes_xor (x := BitVec.ofNat 64 a))
    rw [BitVec.toNat_xor, BitVec.toNat_allOnes, BitVec.toNat_not, BitVec.toNat_ofNat, Nat.mod_eq_of_lt (show a < 2 ^ 64 from ha)] at k
    exact k
  rw [e] at h
  exact h
theorem not_int (x : Int) (hx : U64 x) : bits .xor .u64 IntKind.u64.max x = 18446744073709551615 - x := by
  unfold U64 at hx
  obtain ⟨a, rfl⟩ := Int.eq_ofNat_of_zero_le hx.1
  rw [u64_not a (by omega)]; omega
theorem not_whi {p : Int} : bits .xor .u64 IntKind.u64.max (whi p) = whi (-p - 1) := by
  rw [not_int _ (whi_bd p)]; unfold whi; omega
theorem not_wlo {p : Int} : bits .xor .u64 IntKind.u64.max (wlo p) = wlo (-p - 1) := by
  rw [not_int _ (wlo_bd p)]; unfold wlo; omega
theorem neg_div {p c : Int} (hc : 1 ≤ c) : p / c = -((-p - 1) / c) - 1 := by
  have h1 := Int.emod_add_mul_ediv (-p - 1) c
  have h2 := Int.emod_nonneg (-p - 1) (show c ≠ 0 by omega)
  have h3 := Int.emod_lt_of_pos (-p - 1) (show 0 < c by omega)
  have e : p = c * (-((-p - 1) / c) - 1) + (c - 1 - (-p - 1) % c) := by
    rw [Int.mul_sub, Int.mul_neg, Int.mul_one]; omega
  rw [Int.ediv_eq_iff_of_pos (by omega)]
  rw [Int.mul_comm] at e
  generalize (-((-p - 1) / c) - 1) * c = z at *
  omega

theorem neg_w128 {p : Int} (h : W128 p) : W128 (-p - 1) := by unfold W128 at *; omega
/-- whether the quotient's magnitude fits into 64 bits -/
theorem whi_ge {m c : Int} (hm : W128 m) (h0 : 0 ≤ m) (hc : 1 ≤ c) (h : c ≤ whi m) : 18446744073709551616 ≤ m / c := by
  rw [Int.le_ediv_iff_mul_le (by omega)]
  have h2 : whi m = m / 18446744073709551616 := by unfold whi; unfold W128 at hm; omega
  rw [h2] at h
  omega
theorem not_i64 {q : Int} (h0 : 0 ≤ q) (h1 : q ≤ 9223372036854775807) : bits .xor .i64 (-1) q = -q - 1 := by
  obtain ⟨a, rfl⟩ := Int.eq_ofNat_of_zero_le h0
  rw [i64_not a (by omega)]; omega

set_option maxHeartbeats 1000000 in
theorem quot_pos_ok (p c : Int) (hp : W128 p) (hc1 : 1 ≤ c) (hc : I64 c) (h0 : 0 ≤ p) (hq : I64 (p / c)) (w : World) :
    Calls Try.prog 37 #[.agg #[.int .u64 (whi p), .int .u64 (wlo p)], .int .i64 c] w fun e w' => e = .returned (.tuple #[.int .i64 (p / c), .int .i64 0]) ∧ Below w.heap.size w w' := by
  have hlt : whi p < c := by
    by_cases h : whi p < c
    · exact h
    · have := whi_ge hp h0 hc1 (by omega); unfold I64 at hq; omega
  have hs : wrap64 (whi p) = p / 18446744073709551616 := w128_hi hp
  have hs0 : decide (wrap64 (whi p) < 0) = false := by rw [hs]; simp; omega
  have hci := hc.2
  have hd : decide (c ≤ whi p) = false := by simp; omega
  have hq1 : decide (9223372036854775807 < p / c) = false := by have := hq.2; simp; omega
  have hqb : -9223372036854775808 ≤ p / c ∧ p / c ≤ 9223372036854775807 := hq
  have D := hide (div_any p c hp h0 hc1 hc hlt)
  clear hs hq
  go_enter Try.func37, Try.ntmps37
  go_wp2_with fail
  refine (D.out _).mono ?_
  rintro e w1 ⟨rfl, b1⟩
  go_wp2_with fail
  go_ret2
  exact ⟨rfl, ((Below.refl _ _).alloc (Nat.le_refl _) _).trans (b1.mono (by simp))⟩
set_option maxHeartbeats 1000000 in
theorem quot_pos_no (p c : Int) (hp : W128 p) (hc1 : 1 ≤ c) (hc : I64 c) (h0 : 0 ≤ p) (hq : ¬ I64 (p / c)) (w : World) :
    Calls Try.prog 37 #[.agg #[.int .u64 (whi p), .int .u64 (wlo p)], .int .i64 c] w fun e w' => e = .returned (.tuple #[.int .i64 0, .int .i64 7]) ∧ Below w.heap.size w w' := by
  have hs : wrap64 (whi p) = p / 18446744073709551616 := w128_hi hp
  have hs0 : decide (wrap64 (whi p) < 0) = false := by rw [hs]; simp; omega
  have hci := hc.2
  clear hs
  by_cases hlt : whi p < c
  · have hd : decide (c ≤ whi p) = false := by simp; omega
    have hq1 : decide (9223372036854775807 < p / c) = true := by
      have := Int.ediv_nonneg h0 (show 0 ≤ c by omega)
      unfold I64 at hq; simp; omega
    have D := hide (div_any p c hp h0 hc1 hc hlt)
    clear hq
    go_enter Try.func37, Try.ntmps37
    go_wp2_with fail
    refine (D.out _).mono ?_
    rintro e w1 ⟨rfl, b1⟩
    go_wp2_with fail
    go_ret2
    exact ⟨rfl, ((Below.refl _ _).alloc (Nat.le_refl _) _).trans (b1.mono (by simp))⟩
  · have hd : decide (c ≤ whi p) = true := by simp; omega
    clear hq
    go_enter Try.func37, Try.ntmps37
    go_wp2_with fail
    go_ret2
    exact ⟨rfl, (Below.refl _ _).alloc (Nat.le_refl _) _⟩
set_option maxHeartbeats 1000000 in
theorem quot_neg_ok (p c : Int) (hp : W128 p) (hc1 : 1 ≤ c) (hc : I64 c) (h0 : p < 0) (hq : I64 (p / c)) (w : World) :
    Calls Try.prog 37 #[.agg #[.int .u64 (whi p), .int .u64 (wlo p)], .int .i64 c] w fun e w' => e = .returned (.tuple #[.int .i64 (p / c), .int .i64 0]) ∧ Below w.heap.size w w' := by
  have hm := neg_w128 hp
  have en : p / c = -((-p - 1) / c) - 1 := neg_div hc1
  rw [en] at hq
  rw [en]
  have hlt : whi (-p - 1) < c := by
    by_cases h : whi (-p - 1) < c
    · exact h
    · have := whi_ge hm (by omega) hc1 (by omega); unfold I64 at hq; omega
  have hs : wrap64 (whi p) = p / 18446744073709551616 := w128_hi hp
  have hs0 : decide (wrap64 (whi p) < 0) = true := by rw [hs]; simp; omega
  have x1 : bits .xor .u64 IntKind.u64.max (whi p) = whi (-p - 1) := not_whi
  have x2 : bits .xor .u64 IntKind.u64.max (wlo p) = wlo (-p - 1) := not_wlo
  have x3 : bits .xor .u64 (if IntKind.u64.signed = true then -1 else IntKind.u64.max) (whi p) = whi (-p - 1) := not_whi
  have x4 : bits .xor .u64 (if IntKind.u64.signed = true then -1 else IntKind.u64.max) (wlo p) = wlo (-p - 1) := not_wlo
  have hci := hc.2
  have hd : decide (c ≤ whi (-p - 1)) = false := by simp; omega
  have D := hide (div_any (-p - 1) c hm (by omega) hc1 hc hlt)
  have hq0 := Int.ediv_nonneg (show 0 ≤ -p - 1 by omega) (show 0 ≤ c by omega)
  generalize whi (-p - 1) = mh at *
  generalize wlo (-p - 1) = ml at *
  generalize hr : (-p - 1) % c = rr at *
  generalize (-p - 1) / c = q at *
  have hqb : q ≤ 9223372036854775807 := by unfold I64 at hq; omega
  have hq1 : decide (9223372036854775807 < q) = false := by simp; omega
  have y1 := not_i64 hq0 hqb
  clear hs hq en hr hlt h0
  go_enter Try.func37, Try.ntmps37
  go_wp2_with fail
  refine (D.out _).mono ?_
  rintro e w1 ⟨rfl, b1⟩
  go_wp2_with fail
  go_ret2
  exact ⟨ret2 (by simp [y1]) rfl, ((Below.refl _ _).alloc (Nat.le_refl _) _).trans (b1.mono (by simp))⟩
set_option maxHeartbeats 1000000 in
theorem quot_neg_no (p c : Int) (hp : W128 p) (hc1 : 1 ≤ c) (hc : I64 c) (h0 : p < 0) (hq : ¬ I64 (p / c)) (w : World) :
    Calls Try.prog 37 #[.agg #[.int .u64 (whi p), .int .u64 (wlo p)], .int .i64 c] w fun e w' => e = .returned (.tuple #[.int .i64 0, .int .i64 7]) ∧ Below w.heap.size w w' := by
  have hm := neg_w128 hp
  have en : p / c = -((-p - 1) / c) - 1 := neg_div hc1
  rw [en] at hq
  have hs : wrap64 (whi p) = p / 18446744073709551616 := w128_hi hp
  have hs0 : decide (wrap64 (whi p) < 0) = true := by rw [hs]; simp; omega
  have x1 : bits .xor .u64 IntKind.u64.max (whi p) = whi (-p - 1) := not_whi
  have x2 : bits .xor .u64 IntKind.u64.max (wlo p) = wlo (-p - 1) := not_wlo
  have x3 : bits .xor .u64 (if IntKind.u64.signed = true then -1 else IntKind.u64.max) (whi p) = whi (-p - 1) := not_whi
  have x4 : bits .xor .u64 (if IntKind.u64.signed = true then -1 else IntKind.u64.max) (wlo p) = wlo (-p - 1) := not_wlo
  have hci := hc.2
  have hq0 := Int.ediv_nonneg (show 0 ≤ -p - 1 by omega) (show 0 ≤ c by omega)
  by_cases hlt : whi (-p - 1) < c
  · have hd : decide (c ≤ whi (-p - 1)) = false := by simp; omega
    have D := hide (div_any (-p - 1) c hm (by omega) hc1 hc hlt)
    generalize whi (-p - 1) = mh at *
    generalize wlo (-p - 1) = ml at *
    generalize hr : (-p - 1) % c = rr at *
    generalize (-p - 1) / c = q at *
    have hq1 : decide (9223372036854775807 < q) = true := by unfold I64 at hq; simp; omega
    clear hs hq en hr hlt h0
    go_enter Try.func37, Try.ntmps37
    go_wp2_with fail
    refine (D.out _).mono ?_
    rintro e w1 ⟨rfl, b1⟩
    go_wp2_with fail
    go_ret2
    exact ⟨rfl, ((Below.refl _ _).alloc (Nat.le_refl _) _).trans (b1.mono (by simp))⟩
  · have hd : decide (c ≤ whi (-p - 1)) = true := by simp; omega
    generalize whi (-p - 1) = mh at *
    generalize wlo (-p - 1) = ml at *
    clear hs hq en hlt h0
    go_enter Try.func37, Try.ntmps37
    go_wp2_with fail
    go_ret2
    exact ⟨rfl, (Below.refl _ _).alloc (Nat.le_refl _) _⟩

set_option maxHeartbeats 400000 in
theorem muldiv_ok (a b c : Int) (ha : I64 a) (hb : I64 b) (hc : I64 c) (hc1 : 1 ≤ c) (hq : I64 (a * b / c)) (w : World) :
    Calls Try.prog 22 #[.int .i64 a, .int .i64 b, .int .i64 c] w fun e w' => e = .returned (.tuple #[.int .i64 (a * b / c), .int .i64 0]) ∧ Below w.heap.size w w' := by
  have Q : Hid (∀ w, Calls Try.prog 37 #[.agg #[.int .u64 (whi (a * b)), .int .u64 (wlo (a * b))], .int .i64 c] w fun e w' => e = .returned (.tuple #[.int .i64 (a * b / c), .int .i64 0]) ∧ Below w.heap.size w w') := by
    intro w
    by_cases h : 0 ≤ a * b
    · exact quot_pos_ok _ c (prod_w128 ha hb) hc1 hc h hq w
    · exact quot_neg_ok _ c (prod_w128 ha hb) hc1 hc (by omega) hq w
  have P := hide (product a b ha hb)
  clear hq
  go_enter Try.func22, Try.ntmps22
  go_wp2_with fail
  refine (P.out _).mono ?_
  rintro e w1 ⟨rfl, b1⟩
  go_wp2_with fail
  refine (Q.out _).mono ?_
  rintro e w2 ⟨rfl, b2⟩
  go_wp2_with fail
  go_ret2
  exact ⟨rfl, b1.trans (b2.mono b1.size)⟩
set_option maxHeartbeats 400000 in
theorem muldiv_no (a b c : Int) (ha : I64 a) (hb : I64 b) (hc : I64 c) (hc1 : 1 ≤ c) (hq : ¬ I64 (a * b / c)) (w : World) :
    Calls Try.prog 22 #[.int .i64 a, .int .i64 b, .int .i64 c] w fun e w' => e = .returned (.tuple #[.int .i64 0, .int .i64 7]) ∧ Below w.heap.size w w' := by
  have Q : Hid (∀ w, Calls Try.prog 37 #[.agg #[.int .u64 (whi (a * b)), .int .u64 (wlo (a * b))], .int .i64 c] w fun e w' => e = .returned (.tuple #[.int .i64 0, .int .i64 7]) ∧ Below w.heap.size w w') := by
    intro w
    by_cases h : 0 ≤ a * b
    · exact quot_pos_no _ c (prod_w128 ha hb) hc1 hc h hq w
    · exact quot_neg_no _ c (prod_w128 ha hb) hc1 hc (by omega) hq w
  have P := hide (product a b ha hb)
  clear hq
  go_enter Try.func22, Try.ntmps22
  go_wp2_with fail
  refine (P.out _).mono ?_
  rintro e w1 ⟨rfl, b1⟩
  go_wp2_with fail
  refine (Q.out _).mono ?_
  rintro e w2 ⟨rfl, b2⟩
  go_wp2_with fail
  go_ret2
  exact ⟨rfl, b1.trans (b2.mono b1.size)⟩
set_option maxHeartbeats 400000 in
theorem muldiv_arg (a b c : Int) (hc1 : c < 1) (w : World) :
    Calls Try.prog 22 #[.int .i64 a, .int .i64 b, .int .i64 c] w fun e w' => e = .returned (.tuple #[.int .i64 0, .int .i64 2]) ∧ Below w.heap.size w w' := by
  go_enter Try.func22, Try.ntmps22
  go_wp2_with fail
  go_ret2
  exact ⟨rfl, Below.refl _ _⟩
end Go.Proofs.Ytomgdleoegaooaa
