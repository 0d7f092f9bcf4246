import Derived.Test.YtomgdleoegaooaaD
set_option linter.unusedVariables false
set_option linter.unusedSimpArgs false
namespace Go.Proofs.Ytomgdleoegaooaa
open Go.RowKit

/-- the numerator and the denominator in lowest terms -/
def rN (n d : Int) : Int := if (decide (n < 0) != decide (d < 0)) then -((n.natAbs / Nat.gcd n.natAbs d.natAbs : Nat) : Int) else ((n.natAbs / Nat.gcd n.natAbs d.natAbs : Nat) : Int)
def rD (n d : Int) : Int := ((d.natAbs / Nat.gcd n.natAbs d.natAbs : Nat) : Int)

set_option maxHeartbeats 1000000 in
theorem red_arg (n : Int) (w : World) :
    Calls Try.prog 24 #[.int .i64 n, .int .i64 0] w fun e w' => e = .returned (.tuple #[.agg #[.int .i64 0, .int .i64 0], .int .i64 2]) ∧ Below w.heap.size w w' := by
  go_enter Try.func24, Try.ntmps24
  go_wp2_with fail
  exact bodyPost_ret (v := .tuple #[.agg #[.int .i64 0, .int .i64 0], .int .i64 2]) (by simp [results, Try.results24, go_sem]) rfl ⟨rfl, (Below.refl _ _).alloc (Nat.le_refl _) _⟩

theorem bx (x y : Bool) : (x != y) = (!x == y) := by cases x <;> cases y <;> rfl
theorem uw_in {n : Nat} (h : n < 18446744073709551616) : IntKind.u64.wrap (n : Int) = (n : Int) := by rw [IntKind.wrap_u64]; omega
theorem uw_div {a g : Nat} (h : a < 18446744073709551616) : IntKind.u64.wrap ((a : Int) / (g : Int)) = ((a / g : Nat) : Int) := by
  rw [← Int.natCast_ediv]; exact uw_in (Nat.lt_of_le_of_lt (Nat.div_le_self _ _) h)

set_option maxHeartbeats 1000000 in
theorem red_ok (n d : Int) (hn : I64 n) (hd : I64 d) (h : d ≠ 0) (hN : I64 (rN n d)) (hD : I64 (rD n d)) (w : World) :
    Calls Try.prog 24 #[.int .i64 n, .int .i64 d] w fun e w' => e = .returned (.tuple #[.agg #[.int .i64 (rN n d), .int .i64 (rD n d)], .int .i64 0]) ∧ Below w.heap.size w w' := by
  have hd0 : (d == 0) = false := by simpa using h
  have ha : n.natAbs < 18446744073709551616 := by unfold I64 at hn; omega
  have hb : d.natAbs < 18446744073709551616 := by unfold I64 at hd; omega
  have hg1 : 1 ≤ Nat.gcd n.natAbs d.natAbs := Nat.gcd_pos_of_pos_right _ (by omega)
  have hgi : (1 : Int) ≤ (Nat.gcd n.natAbs d.natAbs : Int) := by omega
  have EN := hide (show rN n d = if (!decide (n < 0) == decide (d < 0)) then -((n.natAbs / Nat.gcd n.natAbs d.natAbs : Nat) : Int) else ((n.natAbs / Nat.gcd n.natAbs d.natAbs : Nat) : Int) by rw [← bx]; rfl)
  have QA := hide (uw_div (g := Nat.gcd n.natAbs d.natAbs) ha)
  have QB := hide (show IntKind.u64.wrap ((d.natAbs : Int) / (Nat.gcd n.natAbs d.natAbs : Int)) = rD n d from uw_div hb)
  have hD2 : rD n d ≤ 9223372036854775807 := hD.2
  have hD0 : 0 ≤ rD n d := Int.natCast_nonneg _
  have HA := hide (absolute n hn)
  have HB := hide (absolute d hd)
  have HG := hide (divisor n.natAbs d.natAbs ha hb)
  generalize rN n d = N at *
  generalize rD n d = D at *
  generalize n.natAbs = a at *
  generalize d.natAbs = b at *
  generalize Nat.gcd a b = g at *
  have HS := hide (signed_yes N hN (a / g) _ EN.out)
  clear hn hd h
  go_enter Try.func24, Try.ntmps24
  go_wp2_with fail
  refine (HA.out _).mono ?_
  rintro e w1 ⟨rfl, rfl⟩
  go_wp2_with fail
  refine (HB.out _).mono ?_
  rintro e w1 ⟨rfl, rfl⟩
  go_wp2_with fail
  refine (HG.out _).mono ?_
  rintro e w1 ⟨rfl, b1⟩
  go_wp2_with fail
  rw [QA.out]
  refine (HS.out _).mono ?_
  rintro e w2 ⟨rfl, rfl⟩
  have c1 : w1.cell? ⟨w.heap.size, 0, none⟩ = some (.int .i64 0) := by rw [(bcell b1).1 _ _ (by simp)]; simp [go_sem]
  have c2 : w1.cell? ⟨w.heap.size, 1, none⟩ = some (.int .i64 0) := by rw [(bcell b1).1 _ _ (by simp)]; simp [go_sem]
  have f1 : w1.frozen? ⟨w.heap.size, 0, none⟩ = false := by rw [(bcell b1).2 _ _ (by simp)]; simp [go_sem]
  have f2 : w1.frozen? ⟨w.heap.size, 1, none⟩ = false := by rw [(bcell b1).2 _ _ (by simp)]; simp [go_sem]
  have bb : Below w.heap.size w w1 := ((Below.refl _ _).alloc (Nat.le_refl _) _).trans (b1.mono (by simp))
  have QB' := QB.out
  go_wp2
  exact bodyPost_ret (v := .tuple #[.agg #[.int .i64 N, .int .i64 D], .int .i64 0]) (by simp [results, Try.results24, go_sem, c1, c2]) rfl ⟨rfl, (bb.setCell (Nat.le_refl _) _).setCell (Nat.le_refl _) _⟩

set_option maxHeartbeats 1000000 in
theorem red_no (n d : Int) (hn : I64 n) (hd : I64 d) (h : d ≠ 0) (hN : ¬ I64 (rN n d) ∨ ¬ I64 (rD n d)) (w : World) :
    Calls Try.prog 24 #[.int .i64 n, .int .i64 d] w fun e w' => e = .returned (.tuple #[.agg #[.int .i64 0, .int .i64 0], .int .i64 7]) ∧ Below w.heap.size w w' := by
  have hd0 : (d == 0) = false := by simpa using h
  have ha : n.natAbs < 18446744073709551616 := by unfold I64 at hn; omega
  have hb : d.natAbs < 18446744073709551616 := by unfold I64 at hd; omega
  have hg1 : 1 ≤ Nat.gcd n.natAbs d.natAbs := Nat.gcd_pos_of_pos_right _ (by omega)
  have hgi : (1 : Int) ≤ (Nat.gcd n.natAbs d.natAbs : Int) := by omega
  have EN := hide (show rN n d = if (!decide (n < 0) == decide (d < 0)) then -((n.natAbs / Nat.gcd n.natAbs d.natAbs : Nat) : Int) else ((n.natAbs / Nat.gcd n.natAbs d.natAbs : Nat) : Int) by rw [← bx]; rfl)
  have QA := hide (uw_div (g := Nat.gcd n.natAbs d.natAbs) ha)
  have QB := hide (show IntKind.u64.wrap ((d.natAbs : Int) / (Nat.gcd n.natAbs d.natAbs : Int)) = rD n d from uw_div hb)
  have hga : n.natAbs / Nat.gcd n.natAbs d.natAbs < 18446744073709551616 := Nat.lt_of_le_of_lt (Nat.div_le_self _ _) ha
  have hD0 : 0 ≤ rD n d := Int.natCast_nonneg _
  have HA := hide (absolute n hn)
  have HB := hide (absolute d hd)
  have HG := hide (divisor n.natAbs d.natAbs ha hb)
  generalize rN n d = N at *
  generalize rD n d = D at *
  generalize n.natAbs = a at *
  generalize d.natAbs = b at *
  generalize Nat.gcd a b = g at *
  have HN := hide hN
  clear hn hd h hN
  by_cases hI : I64 N
  · have HS := hide (signed_yes N hI (a / g) _ EN.out)
    have hD2 : 9223372036854775807 < D := by have := HN.out; unfold I64 at *; omega
    clear hI HN
    go_enter Try.func24, Try.ntmps24
    go_wp2_with fail
    refine (HA.out _).mono ?_
    rintro e w1 ⟨rfl, rfl⟩
    go_wp2_with fail
    refine (HB.out _).mono ?_
    rintro e w1 ⟨rfl, rfl⟩
    go_wp2_with fail
    refine (HG.out _).mono ?_
    rintro e w1 ⟨rfl, b1⟩
    go_wp2_with fail
    rw [QA.out]
    refine (HS.out _).mono ?_
    rintro e w2 ⟨rfl, rfl⟩
    have c1 : w1.cell? ⟨w.heap.size, 0, none⟩ = some (.int .i64 0) := by rw [(bcell b1).1 _ _ (by simp)]; simp [go_sem]
    have c2 : w1.cell? ⟨w.heap.size, 1, none⟩ = some (.int .i64 0) := by rw [(bcell b1).1 _ _ (by simp)]; simp [go_sem]
    have f1 : w1.frozen? ⟨w.heap.size, 0, none⟩ = false := by rw [(bcell b1).2 _ _ (by simp)]; simp [go_sem]
    have f2 : w1.frozen? ⟨w.heap.size, 1, none⟩ = false := by rw [(bcell b1).2 _ _ (by simp)]; simp [go_sem]
    have bb : Below w.heap.size w w1 := ((Below.refl _ _).alloc (Nat.le_refl _) _).trans (b1.mono (by simp))
    have QB' := QB.out
    go_wp2
    exact bodyPost_ret (v := .tuple #[.agg #[.int .i64 0, .int .i64 0], .int .i64 7]) (by simp [results, Try.results24, go_sem, c1, c2]) rfl ⟨rfl, (bb.setCell (Nat.le_refl _) _).setCell (Nat.le_refl _) _⟩
  · have HS := hide (signed_no (a / g) (!decide (n < 0) == decide (d < 0)) hga (by rw [EN.out] at hI; exact hI))
    clear hI HN
    go_enter Try.func24, Try.ntmps24
    go_wp2_with fail
    refine (HA.out _).mono ?_
    rintro e w1 ⟨rfl, rfl⟩
    go_wp2_with fail
    refine (HB.out _).mono ?_
    rintro e w1 ⟨rfl, rfl⟩
    go_wp2_with fail
    refine (HG.out _).mono ?_
    rintro e w1 ⟨rfl, b1⟩
    go_wp2_with fail
    rw [QA.out]
    refine (HS.out _).mono ?_
    rintro e w2 ⟨rfl, rfl⟩
    have c1 : w1.cell? ⟨w.heap.size, 0, none⟩ = some (.int .i64 0) := by rw [(bcell b1).1 _ _ (by simp)]; simp [go_sem]
    have c2 : w1.cell? ⟨w.heap.size, 1, none⟩ = some (.int .i64 0) := by rw [(bcell b1).1 _ _ (by simp)]; simp [go_sem]
    have f1 : w1.frozen? ⟨w.heap.size, 0, none⟩ = false := by rw [(bcell b1).2 _ _ (by simp)]; simp [go_sem]
    have f2 : w1.frozen? ⟨w.heap.size, 1, none⟩ = false := by rw [(bcell b1).2 _ _ (by simp)]; simp [go_sem]
    have bb : Below w.heap.size w w1 := ((Below.refl _ _).alloc (Nat.le_refl _) _).trans (b1.mono (by simp))
    go_wp2
    exact bodyPost_ret (v := .tuple #[.agg #[.int .i64 0, .int .i64 0], .int .i64 7]) (by simp [results, Try.results24, go_sem, c1, c2]) rfl ⟨rfl, (bb.setCell (Nat.le_refl _) _).setCell (Nat.le_refl _) _⟩
end Go.Proofs.Ytomgdleoegaooaa
