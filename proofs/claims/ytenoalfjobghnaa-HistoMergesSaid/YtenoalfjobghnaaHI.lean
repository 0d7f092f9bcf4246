/- The example of the layer. -/
import Derived.Test.YtenoalfjobghnaaHG
import Derived.Test.YtenoalfjobghnaaHH
set_option linter.unusedVariables false
set_option linter.unusedSimpArgs false
namespace Go.Proofs.Ytenoalfjobghnaa
open Go.RowKit

def wV (i : Nat) : Int := ([0, 10] : List Int)[i]?.getD 0
def wC (i : Nat) : Int := ([1, 3, 4] : List Int)[i]?.getD 0
def c1f : Nat → Int := updI (fun _ => 0) 1 3
def c2f : Nat → Int := updI c1f 0 1
def c3f : Nat → Int := updI c2f 2 4
theorem small3 {p : Nat → Prop} (h0 : p 0) (h1 : p 1) (h2 : p 2) : ∀ i, i < 2 + 1 → p i := by
  intro i hi
  rcases (show i = 0 ∨ i = 1 ∨ i = 2 by omega) with rfl | rfl | rfl <;> assumption
theorem lit2 (a b : Int) (w : World) : (Instr.buildSlice 22 2 #[(0, .int .i64 a), (1, .int .i64 b)]).run Try.prog w = .ok (.slice (some ⟨w.heap.size, 0, none⟩) 2 2) (w.alloc (.cells #[.int .i64 a, .int .i64 b] 2)) := by kernel_rfl
theorem lit3 (a b c : Int) (w : World) : (Instr.buildSlice 22 3 #[(0, .int .i64 a), (1, .int .i64 b), (2, .int .i64 c)]).run Try.prog w = .ok (.slice (some ⟨w.heap.size, 0, none⟩) 3 3) (w.alloc (.cells #[.int .i64 a, .int .i64 b, .int .i64 c] 2)) := by kernel_rfl
theorem rowW3 (w : World) : (w.alloc (.cells #[.int .i64 1, .int .i64 3, .int .i64 4] 2)).ownsRow w.heap.size 2 1 (.slice (some ⟨w.heap.size, 0, none⟩) 3 3) 3 (intsI 3 wC) :=
  ⟨by simp [intsI], .inr ⟨w.heap.size, 3, #[.int .i64 1, .int .i64 3, .int .i64 4], rfl, Nat.le_refl _, heap_alloc_new _ _, Nat.le_refl _, by unfold maxLen; omega, by simp, by rfl⟩⟩
theorem rdW (w : World) : Rd1 (w.alloc (.cells #[.int .i64 0, .int .i64 10] 2)) (some ⟨w.heap.size, 0, none⟩) 2 wV := by
  refine .inr ⟨w.heap.size, 0, rfl, by simp, fun i hi => ?_⟩
  rw [World.cell?_alloc_new]
  rcases (show i = 0 ∨ i = 1 by omega) with rfl | rfl <;> rfl
theorem incW : Inc wV 2 := by
  intro i j h1 h2
  rcases (show i = 0 ∧ j = 1 by omega) with ⟨rfl, rfl⟩
  decide
theorem I64s (n : Int) (h : -100 ≤ n ∧ n ≤ 100) : I64 n := by unfold I64; omega
set_option maxRecDepth 100000 in
set_option maxHeartbeats 64000000 in
theorem works (w : World) : Calls Try.prog 14 #[] w fun e w' => e = .returned (.bool true) ∧ Below w.heap.size w w' := by
  have m1 := fun W => lit2 0 10 W
  have N := fun W => hide (new_t (c := 2) (rdW W) (by omega) incW)
  go_enter Try.func14, Try.ntmps14
  go_wp2_with fail
  refine (N _).out.mono ?_
  rintro e w1 ⟨b, vB, vC, rfl, M, k⟩
  have K := hide ((Kp.alloc (o := []) w (.cells #[.int .i64 0, .int .i64 10] 2)).trans0 k)
  have HO := hide (show ∀ x ∈ HM.own b vB vC, w.heap.size ≤ x from fun x hx => by have h1 := (M.lt x hx).1; simp at h1; omega)
  have A := hide (add_t M (by omega) incW (fun _ _ => Int.le_refl _) 5 3 (by omega) (I64s 3 (by omega)) (by decide))
  rw [show bk wV 5 2 = 1 by decide] at A
  clear M k N m1
  go_wp2_with fail
  refine A.out.mono ?_
  rintro e w2 ⟨rfl, M, k⟩
  have X := hide (K.out.trans k (fun z hz => .inr (HO.out z hz))); clear K; have K := hide X.out; clear X
  have M2 : Hid (HM _ w2 b vB vC 2 wV c1f) := hide M
  have A2 := hide (add_t M2.out (by omega) incW (small3 (by decide) (by decide) (by decide)) (-7) 1 (by omega) (I64s 1 (by omega)) (by decide))
  rw [show bk wV (-7) 2 = 0 by decide] at A2
  clear M k A
  go_wp2_with fail
  refine A2.out.mono ?_
  rintro e w3 ⟨rfl, M, k⟩
  have X := hide (K.out.trans k (fun z hz => .inr (HO.out z hz))); clear K; have K := hide X.out; clear X
  have M3 : Hid (HM _ w3 b vB vC 2 wV c2f) := hide M
  have A3 := hide (add_t M3.out (by omega) incW (small3 (by decide) (by decide) (by decide)) 10 4 (by omega) (I64s 4 (by omega)) (by decide))
  rw [show bk wV 10 2 = 2 by decide] at A3
  clear M k A2 M2
  go_wp2_with fail
  refine A3.out.mono ?_
  rintro e w4 ⟨rfl, M, k⟩
  have X := hide (K.out.trans k (fun z hz => .inr (HO.out z hz))); clear K; have K := hide X.out; clear X
  have M4 : Hid (HM _ w4 b vB vC 2 wV c3f) := hide M
  have Q := hide (quantile_t (n := 1) (d := 2) M4.out (by omega) (small3 (by decide) (by decide) (by decide)) (by decide) (by omega) (by omega) (by omega) (I64s 1 (by omega)) (I64s 2 (by omega)) (by decide))
  clear M k A3 M3
  go_wp2_with fail
  refine Q.out.mono ?_
  rintro e w5 ⟨r, rfl, r1, r2, r3, k⟩
  obtain rfl : r = 1 := by
    rcases (show r = 0 ∨ r = 1 ∨ r = 2 by omega) with rfl | rfl | rfl
    · exact absurd (r3 0 (by omega) (by omega)) (by decide)
    · rfl
    · exact absurd (r2 1 (by omega)) (by decide)
  have M5 := hide (M4.out.keep k (by simp))
  have X := hide (K.out.trans0 k); clear K; have K := hide X.out; clear X
  have T := hide (total_t M5.out (by omega) (small3 (by decide) (by decide) (by decide)) (by decide))
  rw [show sumI c3f (2 + 1) = 8 by decide] at T
  have CO := hide (counts_t M5.out (by omega))
  clear r1 r2 r3 k M4 Q
  go_wp2_with fail
  refine T.out.mono ?_
  rintro e w' ⟨rfl, rfl⟩
  go_wp2_with fail
  refine CO.out.mono ?_
  rintro e w6 ⟨v, rfl, ro, k⟩
  obtain ⟨p6, d6, rfl⟩ := row_slice ro
  have X := hide (K.out.trans0 k); clear K; have K := hide X.out; clear X
  have m3 := lit3 1 3 4 w6
  have kz := Kp.alloc (o := []) w6 (.cells #[.int .i64 1, .int .i64 3, .int .i64 4] 2)
  have SM := hide (same_i _ 3 wC _ _ _ _ _ _ (show (w6.alloc (.cells #[.int .i64 1, .int .i64 3, .int .i64 4] 2)).ownsRow _ 2 1 (.slice p6 3 d6) 3 (intsI 3 wC) by rw [show intsI 3 wC = intsI (2 + 1) c3f from rfl]; exact kz.row ro (by simp)) (rowW3 w6) (by omega))
  have X := hide (K.out.trans0 kz); clear K; have K := hide X.out; clear X
  clear ro k kz CO T M5
  go_wp2_with fail
  refine SM.out.mono ?_
  rintro e w7 ⟨rfl, k⟩
  have X := hide (K.out.trans0 k)
  clear k SM m3
  go_wp2_with fail
  go_ret
  exact ⟨rfl, X.out.below (by simp) (Nat.le_refl _)⟩
end Go.Proofs.Ytenoalfjobghnaa
