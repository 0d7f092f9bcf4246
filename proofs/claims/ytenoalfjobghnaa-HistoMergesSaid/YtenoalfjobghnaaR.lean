/- The specification's wide integers: what From, Negate, Int, fit, Zero and Sign return. -/
import Derived.Test.YtenoalfjobghnaaW0
import Derived.Deep.QuietTactic
import Derived.BigQuiet
set_option linter.unusedVariables false
set_option linter.unusedSimpArgs false
namespace Go.Proofs.Ytenoalfjobghnaa
open Go.RowKit

/-- the number that six digits stand for -/
def n6 (c0 c1 c2 c3 c4 c5 : Nat) : Nat := c0 + 4294967296 * (c1 + 4294967296 * (c2 + 4294967296 * (c3 + 4294967296 * (c4 + 4294967296 * c5))))
structure Dig (c0 c1 c2 c3 c4 c5 : Nat) : Prop where
  h0 : c0 < 4294967296
  h1 : c1 < 4294967296
  h2 : c2 < 4294967296
  h3 : c3 < 4294967296
  h4 : c4 < 4294967296
  h5 : c5 < 4294967296
def vz (s : Bool) (m : Nat) : Int := if s then -(m : Int) else (m : Int)
/-- a wide integer stands for z -/
def Rep (z : Int) (s : Bool) (c0 c1 c2 c3 c4 c5 : Nat) : Prop := Dig c0 c1 c2 c3 c4 c5 ∧ z = vz s (n6 c0 c1 c2 c3 c4 c5)
def WPost (z : Int) (w : World) (e : Ending) (w' : World) : Prop := ∃ (s : Bool) (c0 c1 c2 c3 c4 c5 : Nat), e = .returned (.agg #[.bool s, .int .u64 (c0 : Int), .int .u64 (c1 : Int), .int .u64 (c2 : Int), .int .u64 (c3 : Int), .int .u64 (c4 : Int), .int .u64 (c5 : Int)]) ∧ Rep z s c0 c1 c2 c3 c4 c5 ∧ Below w.heap.size w w'
def MPost (m : Nat) (w : World) (e : Ending) (w' : World) : Prop := ∃ (c0 c1 c2 c3 c4 c5 : Nat), e = .returned (.agg #[.int .u64 (c0 : Int), .int .u64 (c1 : Int), .int .u64 (c2 : Int), .int .u64 (c3 : Int), .int .u64 (c4 : Int), .int .u64 (c5 : Int)]) ∧ Dig c0 c1 c2 c3 c4 c5 ∧ n6 c0 c1 c2 c3 c4 c5 = m ∧ Below w.heap.size w w'

theorem vz_abs (s : Bool) (m : Nat) : (vz s m).natAbs = m := by cases s <;> simp [vz]

theorem from_rep {x : Int} (hx : I64 x) : Rep x (decide (x < 0)) (x.natAbs % 4294967296) (x.natAbs / 4294967296) 0 0 0 0 := by
  refine ⟨⟨by omega, by unfold I64 at hx; omega, by decide, by decide, by decide, by decide⟩, ?_⟩
  unfold vz n6
  by_cases h : x < 0
  · simp only [h, decide_true, if_true]; omega
  · simp only [h, decide_false, Bool.false_eq_true, if_false]; omega
set_option maxRecDepth 100000 in
set_option maxHeartbeats 1000000 in
theorem from_ (x : Int) (hx : I64 x) (w : World) : Calls Try.prog 54 #[.int .i64 x] w (WPost x w) := by
  have R := hide (from_rep hx)
  have hx' := hx
  unfold I64 at hx
  by_cases h : x < 0
  · have e1 : IntKind.u64.wrap (IntKind.u64.wrap (-(x + 1)) + 1) = (x.natAbs : Int) := by
      simp only [IntKind.wrap_u64]; omega
    rw [show decide (x < 0) = true by simpa using h] at R
    have e3 : -(x + 1) + 1 = (x.natAbs : Int) := by omega
    have E3 := hide e3
    clear e1 hx' e3
    go_enter Try.func54, Try.ntmps54
    go_wp2_with fail
    refine bodyPost_ret (v := .agg #[.bool true, .int .u64 ((x.natAbs % 4294967296 : Nat) : Int), .int .u64 ((x.natAbs / 4294967296 : Nat) : Int), .int .u64 ((0 : Nat) : Int), .int .u64 ((0 : Nat) : Int), .int .u64 ((0 : Nat) : Int), .int .u64 ((0 : Nat) : Int)]) (by have := E3.out; simp [results, Try.results54, go_sem, this]) rfl ⟨_, _, _, _, _, _, _, rfl, R.out, ?_⟩
    exact ((Below.refl _ _).alloc (Nat.le_refl _) _).alloc (by simp) _
  · have e1 : (x : Int) = (x.natAbs : Int) := by omega
    rw [show decide (x < 0) = false by simpa using h] at R
    have h2 : 0 ≤ x := by omega
    generalize x.natAbs = n at *
    subst e1
    clear hx' h
    go_enter Try.func54, Try.ntmps54
    go_wp2_with fail
    refine bodyPost_ret (v := .agg #[.bool false, .int .u64 ((n % 4294967296 : Nat) : Int), .int .u64 ((n / 4294967296 : Nat) : Int), .int .u64 ((0 : Nat) : Int), .int .u64 ((0 : Nat) : Int), .int .u64 ((0 : Nat) : Int), .int .u64 ((0 : Nat) : Int)]) (by simp [results, Try.results54, go_sem]) rfl ⟨_, _, _, _, _, _, _, rfl, R.out, ?_⟩
    exact ((Below.refl _ _).alloc (Nat.le_refl _) _).alloc (by simp) _

theorem vz_not (s : Bool) (m : Nat) : vz (!s) m = -vz s m := by cases s <;> simp [vz]
/-- what Int says: the number, and whether it fits -/
theorem int_high {z : Int} {s : Bool} {c0 c1 c2 c3 c4 c5 : Nat} (h : Rep z s c0 c1 c2 c3 c4 c5) (hh : c2 ≠ 0 ∨ c3 ≠ 0 ∨ c4 ≠ 0 ∨ c5 ≠ 0) : ¬ I64 z := by
  obtain ⟨⟨h0, h1, h2, h3, h4, h5⟩, rfl⟩ := h
  unfold vz n6 I64
  split <;> omega
def IPost (z : Int) (w : World) (e : Ending) (w' : World) : Prop := (I64 z ∧ e = .returned (.tuple #[.int .i64 z, .bool true]) ∨ ¬ I64 z ∧ e = .returned (.tuple #[.int .i64 0, .bool false])) ∧ Below w.heap.size w w'
theorem nz {n : Nat} (h : n ≠ 0) : ((n : Int) != 0) = true := by rw [bne_iff_ne]; omega
theorem zz {n : Nat} (h : n = 0) : ((n : Int) != 0) = false := by rw [bne_eq_false_iff_eq]; omega
set_option maxRecDepth 100000 in
set_option maxHeartbeats 1000000 in
theorem int_ (z : Int) (s : Bool) (c0 c1 c2 c3 c4 c5 : Nat) (h : Rep z s c0 c1 c2 c3 c4 c5) (w : World) :
    Calls Try.prog 62 #[.agg #[.bool s, .int .u64 (c0 : Int), .int .u64 (c1 : Int), .int .u64 (c2 : Int), .int .u64 (c3 : Int), .int .u64 (c4 : Int), .int .u64 (c5 : Int)]] w (IPost z w) := by
  have bel : ∀ (c : Array Value), Below w.heap.size w (w.alloc (.cells c 86)) := fun c => (Below.refl _ _).alloc (Nat.le_refl _) _
  by_cases g2 : c2 ≠ 0
  · have n2 := nz g2
    have N := hide (int_high h (.inl g2))
    clear h g2
    go_enter Try.func62, Try.ntmps62
    go_wp2_with fail
    go_ret2
    exact ⟨.inr ⟨N.out, rfl⟩, bel _⟩
  by_cases g3 : c3 ≠ 0
  · have n2 := zz (Classical.not_not.1 g2)
    have n3 := nz g3
    have N := hide (int_high h (.inr (.inl g3)))
    clear h g2 g3
    go_enter Try.func62, Try.ntmps62
    go_wp2_with fail
    go_ret2
    exact ⟨.inr ⟨N.out, rfl⟩, bel _⟩
  by_cases g4 : c4 ≠ 0
  · have n2 := zz (Classical.not_not.1 g2)
    have n3 := zz (Classical.not_not.1 g3)
    have n4 := nz g4
    have N := hide (int_high h (.inr (.inr (.inl g4))))
    clear h g2 g3 g4
    go_enter Try.func62, Try.ntmps62
    go_wp2_with fail
    go_ret2
    exact ⟨.inr ⟨N.out, rfl⟩, bel _⟩
  by_cases g5 : c5 ≠ 0
  · have n2 := zz (Classical.not_not.1 g2)
    have n3 := zz (Classical.not_not.1 g3)
    have n4 := zz (Classical.not_not.1 g4)
    have n5 := nz g5
    have N := hide (int_high h (.inr (.inr (.inr g5))))
    clear h g2 g3 g4 g5
    go_enter Try.func62, Try.ntmps62
    go_wp2_with fail
    go_ret2
    exact ⟨.inr ⟨N.out, rfl⟩, bel _⟩
  have n2 := zz (Classical.not_not.1 g2)
  have n3 := zz (Classical.not_not.1 g3)
  have n4 := zz (Classical.not_not.1 g4)
  have n5 := zz (Classical.not_not.1 g5)
  obtain ⟨⟨h0, h1, h2, h3, h4, h5⟩, hz⟩ := h
  have em : n6 c0 c1 c2 c3 c4 c5 = c1 * 4294967296 + c0 := by unfold n6; omega
  rw [em] at hz
  have eu : IntKind.u64.wrap (IntKind.u64.wrap ((c1 : Int) * 4294967296) + (c0 : Int)) = ((c1 * 4294967296 + c0 : Nat) : Int) := by
    simp only [IntKind.wrap_u64]; omega
  have hm : c1 * 4294967296 + c0 < 18446744073709551616 := by omega
  clear g2 g3 g4 g5 h0 h1 h2 h3 h4 h5 em
  generalize c1 * 4294967296 + c0 = m at *
  cases s
  · by_cases hI : m ≤ 9223372036854775807
    · have t1 : decide ((9223372036854775807 : Int) < (m : Int)) = false := by simp; omega
      have N : Hid (I64 z) := by unfold Hid; rw [hz]; simp [vz, I64]; omega
      have Z : Hid (z = (m : Int)) := by unfold Hid; rw [hz]; simp [vz]
      have hmi : (m : Int) ≤ 9223372036854775807 := by omega
      clear hI hz hm
      go_enter Try.func62, Try.ntmps62
      go_wp2_with fail
      go_ret2
      exact ⟨.inl ⟨N.out, by rw [Z.out]; rfl⟩, bel _⟩
    · have t1 : decide ((9223372036854775807 : Int) < (m : Int)) = true := by simp; omega
      have N : Hid (¬ I64 z) := by unfold Hid; rw [hz]; simp [vz, I64]; omega
      clear hI hz hm
      go_enter Try.func62, Try.ntmps62
      go_wp2_with fail
      go_ret2
      exact ⟨.inr ⟨N.out, rfl⟩, bel _⟩
  · by_cases hI : m ≤ 9223372036854775808
    · have t1 : decide ((9223372036854775808 : Int) < (m : Int)) = false := by simp; omega
      have N : Hid (I64 z) := by unfold Hid; rw [hz]; simp [vz, I64]; omega
      by_cases h0 : m = 0
      · have t2 : ((m : Int) == 0) = true := by simp [h0]
        have Z : Hid (z = 0) := by unfold Hid; rw [hz]; simp [vz, h0]
        clear hI hz hm h0
        go_enter Try.func62, Try.ntmps62
        go_wp2_with fail
        go_ret2
        exact ⟨.inl ⟨N.out, by rw [Z.out]; rfl⟩, bel _⟩
      · have t2 : ((m : Int) == 0) = false := by simp [h0]
        have Z : Hid (z = -((m : Int) - 1) - 1) := by unfold Hid; rw [hz]; simp [vz]; omega
        have hmi : (m : Int) ≤ 9223372036854775808 := by omega
        have hm1 : (1 : Int) ≤ m := by omega
        clear hI hz hm h0
        go_enter Try.func62, Try.ntmps62
        go_wp2_with fail
        go_ret2
        exact ⟨.inl ⟨N.out, by rw [Z.out]; rfl⟩, bel _⟩
    · have t1 : decide ((9223372036854775808 : Int) < (m : Int)) = true := by simp; omega
      have N : Hid (¬ I64 z) := by unfold Hid; rw [hz]; simp [vz, I64]; omega
      clear hI hz hm
      go_enter Try.func62, Try.ntmps62
      go_wp2_with fail
      go_ret2
      exact ⟨.inr ⟨N.out, rfl⟩, bel _⟩
def FPost (z : Int) (w : World) (e : Ending) (w' : World) : Prop := (I64 z ∧ e = .returned (.tuple #[.int .i64 z, .int .i64 0]) ∨ ¬ I64 z ∧ e = .returned (.tuple #[.int .i64 0, .int .i64 7])) ∧ Below w.heap.size w w'
set_option maxRecDepth 100000 in
set_option maxHeartbeats 1000000 in
theorem fit (z : Int) (s : Bool) (c0 c1 c2 c3 c4 c5 : Nat) (h : Rep z s c0 c1 c2 c3 c4 c5) (w : World) :
    Calls Try.prog 55 #[.agg #[.bool s, .int .u64 (c0 : Int), .int .u64 (c1 : Int), .int .u64 (c2 : Int), .int .u64 (c3 : Int), .int .u64 (c4 : Int), .int .u64 (c5 : Int)]] w (FPost z w) := by
  have I := hide (int_ z s c0 c1 c2 c3 c4 c5 h)
  clear h
  go_enter Try.func55, Try.ntmps55
  go_wp2_with fail
  refine (I.out _).mono ?_
  rintro e w1 ⟨⟨hz, rfl⟩ | ⟨hz, rfl⟩, b1⟩
  · have Z := hide hz
    have bb : Below w.heap.size w w1 := ((Below.refl _ _).alloc (Nat.le_refl _) _).trans (b1.mono (by simp))
    clear hz b1
    go_wp2_with fail
    go_ret2
    exact ⟨.inl ⟨Z.out, rfl⟩, bb⟩
  · have Z := hide hz
    have bb : Below w.heap.size w w1 := ((Below.refl _ _).alloc (Nat.le_refl _) _).trans (b1.mono (by simp))
    clear hz b1
    go_wp2_with fail
    go_ret2
    exact ⟨.inr ⟨Z.out, rfl⟩, bb⟩
end Go.Proofs.Ytenoalfjobghnaa
