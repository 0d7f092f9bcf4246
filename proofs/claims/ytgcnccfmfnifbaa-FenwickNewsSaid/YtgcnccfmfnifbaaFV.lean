/- agree. -/
import Derived.Test.YtgcnccfmfnifbaaFU
set_option linter.unusedVariables false
set_option linter.unusedSimpArgs false
namespace Go.Proofs.Ytgcnccfmfnifbaa
open Go.RowKit

/-- how one side answers, by its functions' numbers -/
structure Ans (kF kG kP kR kT kL : Nat) (w : World) (p : Option Addr) (fi : Int → Int) (fo : Int → Bool) (g pr : Int → Int) (rg : Int → Int → Int) (t l : Int) : Prop where
  find : ∀ W, Kp [] w W → ∀ x : Int, x ≤ 9223372036854775807 → Calls Try.prog kF #[.pointer p, .int .i64 x] W fun e w' => e = .returned (.tuple #[.int .i64 (fi x), .bool (fo x)]) ∧ Kp [] W w'
  get : ∀ W, Kp [] w W → ∀ x : Int, Calls Try.prog kG #[.pointer p, .int .i64 x] W fun e w' => e = .returned (.int .i64 (g x)) ∧ Kp [] W w'
  pre : ∀ W, Kp [] w W → ∀ x : Int, Calls Try.prog kP #[.pointer p, .int .i64 x] W fun e w' => e = .returned (.int .i64 (pr x)) ∧ Kp [] W w'
  rng : ∀ W, Kp [] w W → ∀ x y : Int, Calls Try.prog kR #[.pointer p, .int .i64 x, .int .i64 y] W fun e w' => e = .returned (.int .i64 (rg x y)) ∧ Kp [] W w'
  tot : ∀ W, Kp [] w W → Calls Try.prog kT #[.pointer p] W fun e w' => e = .returned (.int .i64 t) ∧ Kp [] W w'
  len : ∀ W, Kp [] w W → Calls Try.prog kL #[.pointer p] W fun e w' => e = .returned (.int .i64 l) ∧ Kp [] W w'
set_option maxRecDepth 100000 in
set_option maxHeartbeats 8000000 in
theorem agree_t {w : World} {p q : Option Addr} {fi : Int → Int} {fo : Int → Bool} {g pr : Int → Int} {rg : Int → Int → Int} {t l : Int}
    (A : Ans 20 21 22 23 24 25 w p fi fo g pr rg t l) (R : Ans 27 28 29 30 31 32 w q fi fo g pr rg t l)
    (z0 z1 z2 z3 z4 z5 : Int) (h5 : z5 ≤ 9223372036854775807) :
    Calls Try.prog 14 #[.pointer p, .pointer q, .agg #[.int .i64 z0, .int .i64 z1, .int .i64 z2, .int .i64 z3, .int .i64 z4, .int .i64 z5]] w fun e w' => e = .returned (.bool true) ∧ Kp [] w w' := by
  have K1 := hide (Kp.alloc w (.cells #[.int .i64 z0, .int .i64 z1, .int .i64 z2, .int .i64 z3, .int .i64 z4, .int .i64 z5] 23))
  have HX := hide (heap_alloc_new w (.cells #[.int .i64 z0, .int .i64 z1, .int .i64 z2, .int .i64 z3, .int .i64 z4, .int .i64 z5] 23))
  obtain ⟨w1, hw1⟩ : ∃ w1, w1 = w.alloc (.cells #[.int .i64 z0, .int .i64 z1, .int .i64 z2, .int .i64 z3, .int .i64 z4, .int .i64 z5] 23) := ⟨_, rfl⟩
  rw [← hw1] at K1 HX
  have AF := hide (fun W (k : Kp [] w1 W) => (A.find W (K1.out.trans0 k) z5 h5).mono fun e w' h => And.intro h.1 (k.trans0 h.2))
  have RF := hide (fun W (k : Kp [] w1 W) => (R.find W (K1.out.trans0 k) z5 h5).mono fun e w' h => And.intro h.1 (k.trans0 h.2))
  generalize fi z5 = i5 at *
  generalize fo z5 = o5 at *
  have AG := hide (fun W (k : Kp [] w1 W) i => (A.get W (K1.out.trans0 k) i).mono fun e w' h => And.intro h.1 (k.trans0 h.2))
  have RG := hide (fun W (k : Kp [] w1 W) i => (R.get W (K1.out.trans0 k) i).mono fun e w' h => And.intro h.1 (k.trans0 h.2))
  have AP := hide (fun W (k : Kp [] w1 W) i => (A.pre W (K1.out.trans0 k) i).mono fun e w' h => And.intro h.1 (k.trans0 h.2))
  have RP := hide (fun W (k : Kp [] w1 W) i => (R.pre W (K1.out.trans0 k) i).mono fun e w' h => And.intro h.1 (k.trans0 h.2))
  have AR := hide (fun W (k : Kp [] w1 W) i j => (A.rng W (K1.out.trans0 k) i j).mono fun e w' h => And.intro h.1 (k.trans0 h.2))
  have RR := hide (fun W (k : Kp [] w1 W) i j => (R.rng W (K1.out.trans0 k) i j).mono fun e w' h => And.intro h.1 (k.trans0 h.2))
  have AT := hide (fun W (k : Kp [] w1 W) => (A.tot W (K1.out.trans0 k)).mono fun e w' h => And.intro h.1 (k.trans0 h.2))
  have RT := hide (fun W (k : Kp [] w1 W) => (R.tot W (K1.out.trans0 k)).mono fun e w' h => And.intro h.1 (k.trans0 h.2))
  have AL := hide (fun W (k : Kp [] w1 W) => (A.len W (K1.out.trans0 k)).mono fun e w' h => And.intro h.1 (k.trans0 h.2))
  have RL := hide (fun W (k : Kp [] w1 W) => (R.len W (K1.out.trans0 k)).mono fun e w' h => And.intro h.1 (k.trans0 h.2))
  have n1 : (o5 != o5) = false := by simp
  clear A R h5
  go_enter Try.func14, Try.ntmps14
  go_wp2_with fail
  rw [← hw1]
  obtain ⟨x, hx⟩ : ∃ x, x = w.heap.size := ⟨_, rfl⟩
  rw [← hx] at HX ⊢
  clear hw1 hx
  have CX := hide (fun V (kV : Kp [] w1 V) => show V.cell? ⟨x, 1, none⟩ = some (.int .i64 z1) ∧ V.cell? ⟨x, 3, none⟩ = some (.int .i64 z3) ∧ V.cell? ⟨x, 4, none⟩ = some (.int .i64 z4) ∧ V.cell? ⟨x, 5, none⟩ = some (.int .i64 z5) by simp [cell_of_blk (kV.blk HX.out (by simp))])
  obtain ⟨c1, c3, c4, c5⟩ := CX.out _ (Kp.refl _ _)
  go_wp2_with fail
  refine (AF.out _ (Kp.refl _ _)).mono ?_
  rintro e w2 ⟨rfl, k2⟩
  clear c1 c3 c4 c5
  obtain ⟨c1, c3, c4, c5⟩ := CX.out _ k2
  go_wp2_with fail
  refine (RF.out _ k2).mono ?_
  rintro e w3 ⟨rfl, k3⟩
  have kd : Kp [] w1 w3.drew := k3.trans0 (Kp.drewN [] w3 1)
  clear c1 c3 c4 c5
  have S0 : w3.drew.cell? ⟨x, 1, none⟩ = some (.int .i64 z1) ∧ w3.drew.cell? ⟨x, 3, none⟩ = some (.int .i64 z3) ∧ w3.drew.cell? ⟨x, 4, none⟩ = some (.int .i64 z4) := ⟨(CX.out _ kd).1, (CX.out _ kd).2.1, (CX.out _ kd).2.2.1⟩
  go_wp2_with fail
  go_region_held3 (fun w' => w'.cell? ⟨x, 1, none⟩ = some (.int .i64 z1) ∧ w'.cell? ⟨x, 3, none⟩ = some (.int .i64 z3) ∧ w'.cell? ⟨x, 4, none⟩ = some (.int .i64 z4)) (first | with_reducible assumption)
    (first
      | ((with_reducible (refine (AG.out _ (by with_reducible assumption) _).mono ?_)); rintro e w4 ⟨rfl, k4⟩; have S4 : w4.cell? ⟨x, 1, none⟩ = some (.int .i64 z1) ∧ w4.cell? ⟨x, 3, none⟩ = some (.int .i64 z3) ∧ w4.cell? ⟨x, 4, none⟩ = some (.int .i64 z4) := ⟨(CX.out _ k4).1, (CX.out _ k4).2.1, (CX.out _ k4).2.2.1⟩)
      | ((with_reducible (refine (RG.out _ (by with_reducible assumption) _).mono ?_)); rintro e w5 ⟨rfl, k5⟩; have S5 : w5.cell? ⟨x, 1, none⟩ = some (.int .i64 z1) ∧ w5.cell? ⟨x, 3, none⟩ = some (.int .i64 z3) ∧ w5.cell? ⟨x, 4, none⟩ = some (.int .i64 z4) := ⟨(CX.out _ k5).1, (CX.out _ k5).2.1, (CX.out _ k5).2.2.1⟩)
      | ((with_reducible (refine (AP.out _ (by with_reducible assumption) _).mono ?_)); rintro e w6 ⟨rfl, k6⟩; have S6 : w6.cell? ⟨x, 1, none⟩ = some (.int .i64 z1) ∧ w6.cell? ⟨x, 3, none⟩ = some (.int .i64 z3) ∧ w6.cell? ⟨x, 4, none⟩ = some (.int .i64 z4) := ⟨(CX.out _ k6).1, (CX.out _ k6).2.1, (CX.out _ k6).2.2.1⟩)
      | ((with_reducible (refine (RP.out _ (by with_reducible assumption) _).mono ?_)); rintro e w7 ⟨rfl, k7⟩; have S7 : w7.cell? ⟨x, 1, none⟩ = some (.int .i64 z1) ∧ w7.cell? ⟨x, 3, none⟩ = some (.int .i64 z3) ∧ w7.cell? ⟨x, 4, none⟩ = some (.int .i64 z4) := ⟨(CX.out _ k7).1, (CX.out _ k7).2.1, (CX.out _ k7).2.2.1⟩)
      | ((with_reducible (refine (AR.out _ (by with_reducible assumption) _ _).mono ?_)); rintro e w8 ⟨rfl, k8⟩; have S8 : w8.cell? ⟨x, 1, none⟩ = some (.int .i64 z1) ∧ w8.cell? ⟨x, 3, none⟩ = some (.int .i64 z3) ∧ w8.cell? ⟨x, 4, none⟩ = some (.int .i64 z4) := ⟨(CX.out _ k8).1, (CX.out _ k8).2.1, (CX.out _ k8).2.2.1⟩)
      | ((with_reducible (refine (RR.out _ (by with_reducible assumption) _ _).mono ?_)); rintro e w9 ⟨rfl, k9⟩; have S9 : w9.cell? ⟨x, 1, none⟩ = some (.int .i64 z1) ∧ w9.cell? ⟨x, 3, none⟩ = some (.int .i64 z3) ∧ w9.cell? ⟨x, 4, none⟩ = some (.int .i64 z4) := ⟨(CX.out _ k9).1, (CX.out _ k9).2.1, (CX.out _ k9).2.2.1⟩))
  have K9 := hide k9
  clear k2 k3 kd k4 k5 k6 k7 k8 k9 S0 S4 S5 S6 S7 S8 S9
  go_wp2_with fail
  refine (AT.out _ K9.out).mono ?_
  rintro e w10 ⟨rfl, k10⟩
  go_wp2_with fail
  refine (RT.out _ k10).mono ?_
  rintro e w11 ⟨rfl, k11⟩
  go_wp2_with fail
  refine (AL.out _ k11).mono ?_
  rintro e w12 ⟨rfl, k12⟩
  go_wp2_with fail
  refine (RL.out _ k12).mono ?_
  rintro e w13 ⟨rfl, k13⟩
  have KZ := hide (K1.out.trans0 k13)
  clear k10 k11 k12 k13
  go_wp2_with fail
  go_ret
  exact ⟨rfl, KZ.out⟩
end Go.Proofs.Ytgcnccfmfnifbaa
