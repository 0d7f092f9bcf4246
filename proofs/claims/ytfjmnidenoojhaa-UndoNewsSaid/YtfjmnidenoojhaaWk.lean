/- The chapter's example of sets whose unions are undone. -/
import Derived.Test.YtfjmnidenoojhaaTr
set_option linter.unusedVariables false
set_option linter.unusedSimpArgs false
namespace Go.Proofs.Ytfjmnidenoojhaa
open Go.RowKit

theorem new_u (n : Nat) (h1 : n ≤ 65536) (w : World) : Calls Try.prog 12 #[.int .i64 (n : Int)] w fun e w' => ∃ b own, e = .returned (.tuple #[.pointer (some ⟨b, 0, none⟩), .int .i64 0]) ∧ US w.heap.size w' b own n (fun i => i) [] ∧ (∀ x ∈ own, w.heap.size ≤ x) ∧ Kp [] w w' := by
  refine (new_t n h1 w (Nat.le_refl _)).mono ?_
  rintro e w' ⟨b, own, rfl, u, lo, k⟩
  exact ⟨b, own, rfl, ⟨_, _, _, _, u⟩, lo, k⟩
def wL : Nat → (Nat → Nat) × List (Nat → Nat) := tr (fun i => i) [] (fun k => [3, 1, 4][k]?.getD 0) (fun k => [1, 3, 3][k]?.getD 0)
def wV (i j : Nat) : Int := ([0, 2, 2, 0, 0, 4] : List Int)[i * 2 + j]?.getD 0
theorem buildP (x y : Int) (w : World) : (Instr.build 58 #[(0, .int .i64 x), (1, .int .i64 y)]).run Try.prog w = .ok (.agg #[.int .i64 x, .int .i64 y]) w := by kernel_rfl
theorem mk33 (a b c d e f : Int) (w : World) : (Instr.buildSlice 33 3 #[(0, .agg #[.int .i64 a, .int .i64 b]), (1, .agg #[.int .i64 c, .int .i64 d]), (2, .agg #[.int .i64 e, .int .i64 f])]).run Try.prog w = .ok (.slice (some ⟨w.heap.size, 0, none⟩) 3 3) (w.alloc (.cells #[.int .i64 a, .int .i64 b, .int .i64 c, .int .i64 d, .int .i64 e, .int .i64 f] 58)) := by kernel_rfl
theorem rows_w (w : World) : RowsI (w.alloc (.cells #[.int .i64 0, .int .i64 2, .int .i64 2, .int .i64 0, .int .i64 0, .int .i64 4] 58)) (some ⟨w.heap.size, 0, none⟩) [.i64, .i64] 3 wV := by
  refine .inr ⟨w.heap.size, 0, rfl, by simp, fun i hi j k hj => ?_⟩
  rw [World.cell?_alloc_new]
  rcases (show i = 0 ∨ i = 1 ∨ i = 2 by omega) with rfl | rfl | rfl <;> (rcases (show j = 0 ∨ j = 1 by have := (List.getElem?_eq_some_iff.1 hj).1; simp at this; omega) with rfl | rfl <;> (simp at hj; subst hj; exact ⟨by simp [wV], by decide⟩))
theorem below_kp {w w' : World} (k : Kp [] w w') : Below w.heap.size w w' := k.below (by simp) (Nat.le_refl _)
set_option maxRecDepth 100000 in
set_option maxHeartbeats 16000000 in
theorem works (w : World) : Calls Try.prog 11 #[] w fun e w' => e = .returned (.bool true) ∧ Below w.heap.size w w' := by
  go_enter Try.func11, Try.ntmps11
  go_wp2_with fail
  refine (new_u 5 (by omega) _).mono ?_
  rintro e w1 ⟨b, own, rfl, U, lo, k⟩
  have HU := hide U
  have HO := hide lo
  have HK := hide k
  have Q := hide (union_u U 3 1 (by omega) (by omega) k.size)
  rw [show (!decide ((3 : Nat) = 1)) = true by decide] at Q
  clear U lo k
  go_wp2_with fail
  refine Q.out.mono ?_
  rintro e w2 ⟨rfl, own2, U2, k2, n2⟩
  clear Q
  have HU2 : Hid (US w.heap.size w2 b own2 5 (wL 1).1 (wL 1).2) := hide U2
  have HK2 : Hid (Kp [] w w2) := hide (HK.out.trans k2 (fun z hz => .inr (HO.out z hz)))
  have HO2 : Hid (∀ x ∈ own2, w.heap.size ≤ x) := hide (fun x hx => by rcases n2 x hx with h | h; exact HO.out x h; exact Nat.le_trans HK.out.size h)
  have Q := hide (union_u HU2.out 1 3 (by omega) (by omega) HK2.out.size)
  rw [show (!decide ((wL 1).1 1 = (wL 1).1 3)) = false by decide] at Q
  clear U2 k2 n2 HU HO HK
  go_wp2_with fail
  refine Q.out.mono ?_
  rintro e w3 ⟨rfl, own3, U3, k3, n3⟩
  clear Q
  have HU3 : Hid (US w.heap.size w3 b own3 5 (wL 2).1 (wL 2).2) := hide U3
  have HK3 : Hid (Kp [] w w3) := hide (HK2.out.trans k3 (fun z hz => .inr (HO2.out z hz)))
  have HO3 : Hid (∀ x ∈ own3, w.heap.size ≤ x) := hide (fun x hx => by rcases n3 x hx with h | h; exact HO2.out x h; exact Nat.le_trans HK2.out.size h)
  have Q := hide (union_u HU3.out 4 3 (by omega) (by omega) HK3.out.size)
  rw [show (!decide ((wL 2).1 4 = (wL 2).1 3)) = true by decide] at Q
  clear U3 k3 n3 HU2 HO2 HK2
  go_wp2_with fail
  refine Q.out.mono ?_
  rintro e w4 ⟨rfl, own4, U4, k4, n4⟩
  clear Q
  have HU4 : Hid (US w.heap.size w4 b own4 5 (wL 3).1 (wL 3).2) := hide U4
  have HK4 : Hid (Kp [] w w4) := hide (HK3.out.trans k4 (fun z hz => .inr (HO3.out z hz)))
  have HO4 : Hid (∀ x ∈ own4, w.heap.size ≤ x) := hide (fun x hx => by rcases n4 x hx with h | h; exact HO3.out x h; exact Nat.le_trans HK3.out.size h)
  have b1 := buildP 0 2 w4
  have b2 := buildP 2 0 w4
  have b3 := buildP 0 4 w4
  have m1 := mk33 0 2 2 0 0 4 w4
  have KA := Kp.alloc (o := []) w4 (.cells #[.int .i64 0, .int .i64 2, .int .i64 2, .int .i64 0, .int .i64 0, .int .i64 4] 58)
  have HKA := hide KA
  have ltb := HU4.out.lt
  have Q := hide (trial_t (HU4.out.keep KA (by simp)) (rows_w w4) (cap := 3) (by omega) (by have := HK4.out.size; simp; omega) (fun bb off sp _ e hm => by injection e with e; injection e with e; subst e; have := (ltb _ hm).2; omega) (fun k => [0, 2, 0][k]?.getD 0) (fun k => [2, 0, 4][k]?.getD 0)
    (fun k hk => by rcases (show k = 0 ∨ k = 1 ∨ k = 2 by omega) with rfl | rfl | rfl <;> decide))
  clear U4 k4 n4 HU3 HO3 HK3 KA ltb
  go_wp2_with fail
  rw [show rowV (tr (wL 3).1 (wL 3).2 (fun k => [0, 2, 0][k]?.getD 0) (fun k => [2, 0, 4][k]?.getD 0) 3).1 5 = .agg #[.int .i64 5, .int .i64 1, .int .i64 25] by kernel_rfl] at Q
  refine Q.out.mono ?_
  rintro e w5 ⟨rfl, own5, U5, k5, n5⟩
  clear Q b1 b2 b3 m1
  have HU5 := hide U5
  have HK5 : Hid (Kp [] w w5) := hide ((HK4.out.trans HKA.out (by simp)).trans k5 (fun z hz => .inr (HO4.out z hz)))
  have HO5 : Hid (∀ x ∈ own5, w.heap.size ≤ x) := hide (fun x hx => by rcases n5 x hx with h | h; exact HO4.out x h; have := HK4.out.size; simp at h; omega)
  have KA := Kp.alloc (o := []) w5 (.cells #[.int .i64 5, .int .i64 1, .int .i64 25] 40)
  have HKA5 := hide KA
  have U6 := U5.keep KA (by simp)
  have HU6 := hide U6
  have Q1 := hide (undo_o U6 3 (.inr (by show (((wL 3).2.length : Nat) : Int) < 3; rw [show (wL 3).2.length = 2 by decide]; omega)))
  have Q2 := hide (undo_u U6 1 (by rw [show (wL 3).2.length = 2 by decide]; omega) (by have := HK5.out.size; simp; omega))
  have be := build40 0
  clear U5 k5 n5 HU4 HO4 HK4 HKA KA U6
  have bq := fun (W : World) => (show (Instr.build 40 #[(0, .int .i64 5), (1, .int .i64 1), (2, .int .i64 25)]).run Try.prog W = .ok (.agg #[.int .i64 5, .int .i64 1, .int .i64 25]) W by kernel_rfl)
  go_wp2_with fail
  refine Q1.out.mono ?_
  rintro e w' ⟨rfl, rfl⟩
  go_wp2_with fail
  refine Q2.out.mono ?_
  rintro e w6 ⟨rfl, U7, k7⟩
  have HK6 : Hid (Kp [] w w6) := hide ((HK5.out.trans HKA5.out (by simp)).trans k7 (fun z hz => .inr (HO5.out z hz)))
  have R1 := hide (mark_u U7)
  rw [show ((wL 3).2.take 1).length = 1 by decide] at R1
  have R2 := hide (same_u U7 1 3 (by omega) (by omega))
  rw [show decide (atL (wL 3).1 (wL 3).2 1 1 = atL (wL 3).1 (wL 3).2 1 3) = true by decide] at R2
  have R3 := hide (same_u U7 3 4 (by omega) (by omega))
  rw [show decide (atL (wL 3).1 (wL 3).2 1 3 = atL (wL 3).1 (wL 3).2 1 4) = false by decide] at R3
  clear U7 k7 Q1 Q2 bq be
  go_wp2_with fail
  refine R1.out.mono ?_
  rintro e w' ⟨rfl, rfl⟩
  go_wp2_with fail
  refine R2.out.mono ?_
  rintro e w' ⟨rfl, rfl⟩
  go_wp2_with fail
  refine R3.out.mono ?_
  rintro e w' ⟨rfl, rfl⟩
  go_wp2_with fail
  go_ret
  exact ⟨rfl, below_kp HK6.out⟩
end Go.Proofs.Ytfjmnidenoojhaa
