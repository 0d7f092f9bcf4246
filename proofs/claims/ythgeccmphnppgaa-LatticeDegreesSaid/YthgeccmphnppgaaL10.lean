/- No edge twice, and how many at each vertex. -/
import Derived.Test.YthgeccmphnppgaaK
import Derived.Test.YthgeccmphnppgaaS
import Derived.Test.YthgeccmphnppgaaJ
import Derived.Test.YthgeccmphnppgaaOp
import Derived.Test.YthgeccmphnppgaaRows
import Derived.Deep.CutRange
set_option linter.unusedVariables false
set_option linter.unusedSimpArgs false
namespace Go.Proofs.Ythgeccmphnppgaa
open Go.RowKit
theorem deg_le (l : List E3) (k i : Nat) (h : l.length ≤ 2000) : deg (l.take k) i ≤ 4000 := by
  unfold deg
  have h1 := List.countP_le_length (p := fun t => un t == i) (l := l.take k)
  have h2 := List.countP_le_length (p := fun t => vn t == i) (l := l.take k)
  have h3 := List.length_take_le' k l
  omega
namespace lawDegrees
open Go.ChangeShapes Go.WideShapes Go.ChangeAt Go.RowKit Go.Joins
set_option maxRecDepth 100000 in
set_option maxHeartbeats 16000000 in
theorem walk (a0 : Int) (a1 : Int) (a2 : Bool) (a3 : Bool) (a4 : Bool) (w : World) (b0 : 0 ≤ a0 ∧ a0 ≤ 255) (b1 : 0 ≤ a1 ∧ a1 ≤ 255) : Calls Try.prog 10 #[.int .u8 a0, .int .u8 a1, .bool a2, .bool a3, .bool a4] w fun e w' => e = .returned (.bool true) ∧ Below w.heap.size w w' := by
  obtain ⟨a, rfl⟩ : ∃ a : Nat, a0 = (a : Int) := ⟨a0.toNat, by omega⟩
  obtain ⟨b, rfl⟩ : ∃ b : Nat, a1 = (b : Int) := ⟨a1.toNat, by omega⟩
  have S := hide (sides_t a b (by omega) (by omega) w)
  have G := hide (sides_grid a b)
  obtain ⟨s1, s2⟩ := side_b a
  obtain ⟨s3, s4⟩ := side_b b
  generalize a % 24 + 1 = x at *
  generalize b % 24 + 1 = y at *
  have E1 := hide (either_t (x : Int) (y : Int) a2 a3 a4 w)
  rw [gridR_yes a2 a3 (dOf a4) G.out] at E1
  have OK := hide (fun t => gE_ok (wx := a2) (wy := a3) (ds := dOf a4) (t := t) s1 s3 (dOf_okd a4))
  have PW := hide (gE_pw (wx := a2) (wy := a3) s1 s3 (dOf_okd a4) (dOf_pw a4) (x * y) (Nat.le_refl _))
  have LE := hide (show (gE x y a2 a3 (dOf a4) (x * y)).length ≤ 2000 by
    have h1 := gE_len x y a2 a3 (dOf a4) (x * y)
    have h2 := Nat.mul_le_mul s2 s4
    have h3 := Nat.mul_le_mul h2 (dOf_ok a4).1
    omega)
  have OP := hide (show a2 = false → a3 = false → (gE x y a2 a3 (dOf a4) (x * y)).length = x * (y - 1) + y * (x - 1) + (if a4 = true then (x - 1) * (y - 1) else 0) by intro e1 e2; subst e1; subst e2; exact open_len x y a4 s1 s3)
  have CL := hide (show a2 = true → a3 = true → 3 ≤ x → 3 ≤ y → ∀ i, i < x * y → deg (gE x y a2 a3 (dOf a4) (x * y)) i = 2 * (dOf a4).length by intro e1 e2 h1 h2 i hi; subst e1; subst e2; exact deg_closed h1 h2 hi (dOf_okd a4))
  have nb := Nat.mul_le_mul s2 s4
  have n1 : 1 ≤ x * y := Nat.mul_le_mul s1 s3
  obtain ⟨n, hn⟩ : ∃ n, n = x * y := ⟨_, rfl⟩
  have mulc : (x : Int) * (y : Int) = (n : Int) := by rw [hn, Int.natCast_mul]
  rw [← hn] at E1 OK PW LE OP CL nb n1
  have HN := hide hn
  clear hn
  have wn : IntKind.i64.wrap (n : Int) = (n : Int) := by rw [IntKind.wrap_i64]; omega
  obtain ⟨N, hN⟩ : ∃ N, N = n * n := ⟨_, rfl⟩
  have mulN : (n : Int) * (n : Int) = (N : Int) := by rw [hN, Int.natCast_mul]
  have Nb : N ≤ 331776 := by have := Nat.mul_le_mul nb nb; omega
  have N1 : 1 ≤ N := by have := Nat.mul_le_mul n1 n1; omega
  have wN : IntKind.i64.wrap (N : Int) = (N : Int) := by rw [IntKind.wrap_i64]; omega
  have HNN := hide hN
  clear hN
  generalize gE x y a2 a3 (dOf a4) n = l at *
  clear G b0 b1
  have hm1 : ∀ w : World, (Instr.makeSlice 47 (.int .i64 (N : Int)) (.int .i64 (N : Int))).run Try.prog w = .ok (.slice (some ⟨w.heap.size, 0, none⟩) N N) (w.alloc (.cells (madeCells #[.bool false] N) 4)) :=
    fun w => run_make_row' 47 4 (.bool false) 1 Try.underlying47 info4 rfl .i64 .i64 N (by omega) (by omega) w
  have hm2 : ∀ w : World, (Instr.makeSlice 48 (.int .i64 (n : Int)) (.int .i64 (n : Int))).run Try.prog w = .ok (.slice (some ⟨w.heap.size, 0, none⟩) n n) (w.alloc (.cells (madeCells #[.int .i64 0] n) 3)) :=
    fun w => run_make_row' 48 3 (.int .i64 0) 8 Try.underlying48 info3 rfl .i64 .i64 n (by omega) (by omega) w
  go_enter Try.func10, Try.ntmps10
  go_wp2_with fail
  refine S.out.mono ?_
  rintro e w' ⟨rfl, rfl⟩
  go_wp2_with fail
  refine E1.out.mono ?_
  rintro e w1 ⟨v1, rfl, rd1, bw1⟩
  simp only at rd1
  obtain ⟨p1, c1, hv1⟩ := rd1.slice
  subst hv1
  have R1 := hide rd1
  have B1 := hide bw1
  clear rd1 bw1 E1
  generalize hln : l.length = ln at *
  have HL := hide hln
  clear hln
  go_wp2_with fail
  have D0 := hide (show DG w1 ((w1.alloc (.cells (madeCells #[.bool false] N) 4)).alloc (.cells (madeCells #[.int .i64 0] n) 3)) w1.heap.size (w1.heap.size + 1) n (seen n (l.take 0)) (deg (l.take 0)) from DG.start w1 HNN.out l)
  generalize (w1.alloc (.cells (madeCells #[.bool false] N) 4)).alloc (.cells (madeCells #[.int .i64 0] n) 3) = W0 at *
  obtain ⟨gs, hgs⟩ : ∃ g, g = w1.heap.size := ⟨_, rfl⟩
  obtain ⟨gd, hgd⟩ : ∃ g, g = w1.heap.size + 1 := ⟨_, rfl⟩
  rw [← hgd, ← hgs] at D0
  rw [← hgd, ← hgs]
  clear hgd hgs hm1 hm2 mulN wN N1
  have lb := LE.out
  go_loopw [10, 18] (fun z i wr => z = .bool false ∧ ∃ k : Nat, k ≤ ln ∧ i = .int .i64 (k : Int) ∧ Hid (DG w1 wr gs gd n (seen n (l.take k)) (deg (l.take k)))) (fun _ i _ => ln - (intOf i).toNat)
  case atStart => exact ⟨rfl, 0, by omega, rfl, D0⟩
  case round =>
    obtain ⟨rfl, k, hk, rfl, hD⟩ := hrel
    by_cases hkn : k < ln
    · have dk : decide (k < ln) = true := by simp; omega
      have dki : decide ((k : Int) < (ln : Int)) = true := by simp; omega
      have wk : IntKind.i64.wrap ((k : Int) + 1) = ((k + 1 : Nat) : Int) := by rw [IntKind.wrap_i64]; omega
      obtain ⟨t, ht⟩ : ∃ t, l[k]? = some t := ⟨_, List.getElem?_eq_getElem (by rw [HL.out]; exact hkn)⟩
      have bw := hD.out.kp.below (B := w1.heap.size) (by simp) (Nat.le_refl _)
      obtain ⟨b1, o1, rfl, e1, e2, e3⟩ := (R1.out.keep bw).at ht
      obtain ⟨q1, q2, q3, q4⟩ := OK.out t (List.mem_of_getElem? ht)
      have fresh := seen_fresh (n := n) (fun t ht => ⟨(OK.out t ht).1, (OK.out t ht).2.1⟩) PW.out ht
      generalize un t = u at *
      generalize vn t = v at *
      subst q4
      simp only at e1 e2 e3
      have HT := hide ht
      have lu := Nat.mul_le_mul_right n (show u + 1 ≤ n by omega)
      have lv := Nat.mul_le_mul_right n (show v + 1 ≤ n by omega)
      rw [Nat.add_mul, Nat.one_mul, ← HNN.out] at lu lv
      have ST := hide (seen_two (n := n) ht)
      have DT := hide (deg_two ht)
      obtain ⟨m1, hm1⟩ : ∃ m, m = u * n := ⟨_, rfl⟩
      obtain ⟨m2, hm2⟩ : ∃ m, m = v * n := ⟨_, rfl⟩
      have mu1 : (u : Int) * (n : Int) = (m1 : Int) := by rw [hm1, Int.natCast_mul]
      have mu2 : (v : Int) * (n : Int) = (m2 : Int) := by rw [hm2, Int.natCast_mul]
      rw [← hm1] at fresh lu
      rw [← hm2] at lv
      rw [← hm1, ← hm2] at ST
      clear hm1 hm2 ht bw
      obtain ⟨c1, hc1⟩ : ∃ c, c = m1 + v := ⟨_, rfl⟩
      obtain ⟨c2, hc2⟩ : ∃ c, c = m2 + u := ⟨_, rfl⟩
      have ad1 : (m1 : Int) + (v : Int) = (c1 : Int) := by omega
      have ad2 : (m2 : Int) + (u : Int) = (c2 : Int) := by omega
      have cb1 : c1 < N := by omega
      have cb2 : c2 < N := by omega
      have wm1 : IntKind.i64.wrap (m1 : Int) = (m1 : Int) := by rw [IntKind.wrap_i64]; omega
      have wm2 : IntKind.i64.wrap (m2 : Int) = (m2 : Int) := by rw [IntKind.wrap_i64]; omega
      have wc1 : IntKind.i64.wrap (c1 : Int) = (c1 : Int) := by rw [IntKind.wrap_i64]; omega
      have wc2 : IntKind.i64.wrap (c2 : Int) = (c2 : Int) := by rw [IntKind.wrap_i64]; omega
      rw [← hc1] at fresh ST
      rw [← hc2] at ST
      clear hc1 hc2 lu lv
      have cc1 : c1 < n * n := by rw [← HNN.out]; exact cb1
      have cc2 : c2 < n * n := by rw [← HNN.out]; exact cb2
      have uneq : ((u : Int) == (v : Int)) = false := by simp; omega
      have ule : decide ((n : Int) ≤ (u : Int)) = false := by simp; omega
      have vle : decide ((n : Int) ≤ (v : Int)) = false := by simp; omega
      have du4 := deg_le l k u (by rw [HL.out]; exact lb)
      have dv4 := deg_le l k v (by rw [HL.out]; exact lb)
      have HC := hide (And.intro cc1 cc2)
      clear cc1 cc2
      go_wp2_with fail
      go_quiet (fail)
      have DZ := hide (hD.out.drew nq)
      have f1 : (wr.drewN nq).cell? ⟨b1, o1 + k * 3, none⟩ = some (.int .i64 (u : Int)) := e1
      have f2 : (wr.drewN nq).cell? ⟨b1, o1 + k * 3 + 1, none⟩ = some (.int .i64 (v : Int)) := e2
      have f3 : (wr.drewN nq).cell? ⟨b1, o1 + k * 3 + 2, none⟩ = some (.int .i64 0) := e3
      generalize wr.drewN nq = wz at *
      clear e1 e2 e3 hD
      have cs1 := DZ.out.sc c1 HC.out.1
      rw [fresh] at cs1
      have z1 := DZ.out.fs c1
      have z2 := DZ.out.fs c2
      have z3 := DZ.out.fd u
      have z4 := DZ.out.fd v
      have D1 := hide (DZ.out.mark HC.out.1)
      have cs2 := D1.out.sc c2 HC.out.2
      have D2 := hide (D1.out.mark HC.out.2)
      have cs3 := D2.out.dc u q1
      have D3 := hide (D2.out.more q1)
      have cs4 := D3.out.dc v q2
      simp only [if_neg q3, Nat.add_zero] at cs4
      have D4 := hide (D3.out.more q2)
      have D5 := hide (D4.out.of (S' := seen n (l.take (k + 1))) (D' := deg (l.take (k + 1))) ST.out DT.out)
      simp only [if_neg q3, Nat.add_zero] at D5
      clear D1 D2 D3 D4 DZ
      generalize deg (l.take k) u = du at *
      generalize deg (l.take k) v = dv at *
      obtain ⟨du1, hu1⟩ : ∃ d, d = du + 1 := ⟨_, rfl⟩
      obtain ⟨dv1, hv1⟩ : ∃ d, d = dv + 1 := ⟨_, rfl⟩
      have wdu : IntKind.i64.wrap ((du : Int) + 1) = (du1 : Int) := by rw [IntKind.wrap_i64]; omega
      have wdv : IntKind.i64.wrap ((dv : Int) + 1) = (dv1 : Int) := by rw [IntKind.wrap_i64]; omega
      rw [← hu1] at cs4 D5
      rw [← hv1] at D5
      clear hu1 hv1
      generalize (seen n (l.take k) c2 || c1 == c2) = bz at *
      go_wp2_with fail
      go_roundw
      case rel => exact ⟨rfl, k + 1, by omega, rfl, D5⟩
      case measure => simp [intOf]; omega
    · have : k = ln := by omega
      subst this
      have dk : decide (k < k) = false := by simp
      have dki : decide ((k : Int) < (k : Int)) = false := by simp
      have TL : l.take k = l := List.take_of_length_le (by rw [HL.out]; exact Nat.le_refl _)
      rw [TL] at hD
      have BK := hide (B1.out.trans ((hD.out.kp.below (B := w1.heap.size) (by simp) (Nat.le_refl _)).mono B1.out.size))
      obtain ⟨xz, hxz⟩ : ∃ z, z = x - 1 := ⟨_, rfl⟩
      obtain ⟨yz, hyz⟩ : ∃ z, z = y - 1 := ⟨_, rfl⟩
      have xw : IntKind.i64.wrap ((x : Int) - 1) = (xz : Int) := by rw [IntKind.wrap_i64]; omega
      have yw : IntKind.i64.wrap ((y : Int) - 1) = (yz : Int) := by rw [IntKind.wrap_i64]; omega
      rw [← hxz, ← hyz] at OP
      have bA := Nat.mul_le_mul s2 (show yz ≤ 24 by omega)
      have bB := Nat.mul_le_mul s4 (show xz ≤ 24 by omega)
      have bC := Nat.mul_le_mul (show xz ≤ 24 by omega) (show yz ≤ 24 by omega)
      clear hxz hyz TL
      cases a2
      · cases a3
        · have hl := OP.out rfl rfl
          obtain ⟨mA, hA⟩ : ∃ m, m = x * yz := ⟨_, rfl⟩
          obtain ⟨mB, hB⟩ : ∃ m, m = y * xz := ⟨_, rfl⟩
          obtain ⟨mC, hC⟩ : ∃ m, m = xz * yz := ⟨_, rfl⟩
          have eA : (x : Int) * (yz : Int) = (mA : Int) := by rw [hA, Int.natCast_mul]
          have eB : (y : Int) * (xz : Int) = (mB : Int) := by rw [hB, Int.natCast_mul]
          have eC : (xz : Int) * (yz : Int) = (mC : Int) := by rw [hC, Int.natCast_mul]
          rw [← hA, ← hB, ← hC] at hl
          rw [← hA] at bA
          rw [← hB] at bB
          rw [← hC] at bC
          clear hA hB hC
          have wA : IntKind.i64.wrap (mA : Int) = (mA : Int) := by rw [IntKind.wrap_i64]; omega
          have wB : IntKind.i64.wrap (mB : Int) = (mB : Int) := by rw [IntKind.wrap_i64]; omega
          have wC : IntKind.i64.wrap (mC : Int) = (mC : Int) := by rw [IntKind.wrap_i64]; omega
          cases a4
          · simp only [Bool.false_eq_true, if_false, Nat.add_zero] at hl
            have eS : (mA : Int) + (mB : Int) = (k : Int) := by omega
            have wS : IntKind.i64.wrap (k : Int) = (k : Int) := by rw [IntKind.wrap_i64]; omega
            clear hl mulc OP CL bA bB bC
            go_wp2_with fail
            refine (works _).mono ?_
            rintro e w4 ⟨rfl, bw4⟩
            have B4 := hide (BK.out.trans (bw4.mono BK.out.size))
            clear bw4 BK
            go_wp2_with fail
            go_ret
            exact ⟨rfl, B4.out⟩
          · simp only [if_true] at hl
            obtain ⟨mS, hS⟩ : ∃ m, m = mA + mB := ⟨_, rfl⟩
            have eS : (mA : Int) + (mB : Int) = (mS : Int) := by omega
            have wS : IntKind.i64.wrap (mS : Int) = (mS : Int) := by rw [IntKind.wrap_i64]; omega
            have eT : (mS : Int) + (mC : Int) = (k : Int) := by omega
            have wT : IntKind.i64.wrap (k : Int) = (k : Int) := by rw [IntKind.wrap_i64]; omega
            clear hl hS mulc OP CL bA bB bC
            go_wp2_with fail
            refine (works _).mono ?_
            rintro e w4 ⟨rfl, bw4⟩
            have B4 := hide (BK.out.trans (bw4.mono BK.out.size))
            clear bw4 BK
            go_wp2_with fail
            go_ret
            exact ⟨rfl, B4.out⟩
        · clear OP CL bA bB bC mulc
          go_wp2_with fail
          refine (works _).mono ?_
          rintro e w4 ⟨rfl, bw4⟩
          have B4 := hide (BK.out.trans (bw4.mono BK.out.size))
          clear bw4 BK
          go_wp2_with fail
          go_ret
          exact ⟨rfl, B4.out⟩
      · cases a3
        · clear OP CL bA bB bC mulc
          go_wp2_with fail
          refine (works _).mono ?_
          rintro e w4 ⟨rfl, bw4⟩
          have B4 := hide (BK.out.trans (bw4.mono BK.out.size))
          clear bw4 BK
          go_wp2_with fail
          go_ret
          exact ⟨rfl, B4.out⟩
        · clear OP bA bB bC mulc
          by_cases hb : 3 ≤ x ∧ 3 ≤ y
          · have d3 : decide ((3 : Int) ≤ (x : Int)) = true := by simp; omega
            have d4 : decide ((3 : Int) ≤ (y : Int)) = true := by simp; omega
            have hdc : Hid (∀ i, i < n → wr.cell? ⟨gd, i, none⟩ = some (.int .i64 ((2 * (dOf a4).length : Nat) : Int))) := fun i hi => by
              have := hD.out.dc i hi
              rw [CL.out rfl rfl hb.1 hb.2 i hi] at this
              exact this
            clear CL hb
            cases a4
            all_goals
              go_wp2_with fail
              go_loop [10, 23] (fun z i => z = .bool false ∧ ∃ j : Nat, j ≤ n ∧ i = .int .i64 (j : Int)) (fun _ i => n - (intOf i).toNat)
              case atStart => exact ⟨rfl, 0, by omega, rfl⟩
              case round =>
                obtain ⟨rfl, j, hj, rfl⟩ := hrel
                by_cases hjn : j < n
                · have dj : decide (j < n) = true := by simp; omega
                  have dji : decide ((j : Int) < (n : Int)) = true := by simp; omega
                  have wj : IntKind.i64.wrap ((j : Int) + 1) = ((j + 1 : Nat) : Int) := by rw [IntKind.wrap_i64]; omega
                  have cj := hdc.out j hjn
                  simp only [dOf, dsq, dtri, Bool.false_eq_true, if_false, if_true, List.length_cons, List.length_nil] at cj
                  go_wp2_with fail
                  go_round
                  case rel => exact ⟨rfl, j + 1, by omega, rfl⟩
                  case measure => simp [intOf]; omega
                · have : j = n := by omega
                  subst this
                  have dj : decide (j < j) = false := by simp
                  have dji : decide ((j : Int) < (j : Int)) = false := by simp
                  go_wp2_with fail
                  refine (works _).mono ?_
                  rintro e w4 ⟨rfl, bw4⟩
                  have B4 := hide (BK.out.trans (bw4.mono BK.out.size))
                  clear bw4 BK
                  go_wp2_with fail
                  go_ret
                  exact ⟨rfl, B4.out⟩
          · have hor : (3 ≤ x ∧ ¬ 3 ≤ y) ∨ ¬ 3 ≤ x := by omega
            clear CL hb
            rcases hor with ⟨h1, h2⟩ | h1
            · have d3 : decide ((3 : Int) ≤ (x : Int)) = true := by simp; omega
              have d4 : decide ((3 : Int) ≤ (y : Int)) = false := by simp; omega
              go_wp2_with fail
              refine (works _).mono ?_
              rintro e w4 ⟨rfl, bw4⟩
              have B4 := hide (BK.out.trans (bw4.mono BK.out.size))
              clear bw4 BK
              go_wp2_with fail
              go_ret
              exact ⟨rfl, B4.out⟩
            · have d3 : decide ((3 : Int) ≤ (x : Int)) = false := by simp; omega
              go_wp2_with fail
              refine (works _).mono ?_
              rintro e w4 ⟨rfl, bw4⟩
              have B4 := hide (BK.out.trans (bw4.mono BK.out.size))
              clear bw4 BK
              go_wp2_with fail
              go_ret
              exact ⟨rfl, B4.out⟩
theorem own : ownKnob Try.prog.godebug = none := by kernel_rfl
theorem laidOut : laidOutB Try.prog = true := by kernel_rfl
set_option maxRecDepth 100000 in
theorem lifted (os : Os) (started : os.Started) (H : Type) (enc : TypeId × Value → H) :
    ReturnsInHanded {} Try.checked os 10 .any (Rows.latticeDegreesSpec.pre6 enc Try.prog Try.f10 Rows.latticeDegreesRow.domain false) (Rows.latticeDegreesSpec.post enc Try.prog Try.f10 false true false false) := by
  refine returnsInHanded_of_change (C := Try.checked) own started (by kernel_rfl) Try.func10
    (ChangeSpec.witness6 (enc := enc) (C := Try.checked) false ⟨#[], #[.int .u8 0, .int .u8 0, .bool false, .bool false, .bool false], []⟩ 8 (by kernel_rfl) (by kernel_rfl) (by kernel_rfl) (by kernel_rfl)) ?_
  intro W base args ds gs before hval0 hW hcnd _
  have hval : ∀ (j : Nat) t v, Try.f10.params[j]? = some t → args[j]? = some v → Value.okWide Try.prog W .any base t v := hval0
  have hW' := hW
  obtain ⟨p, q, hA0, hV, rfl, hfz, hnd⟩ := hW
  have hA : DataW.TrodAll enc Try.prog W 0 (fun _ => true) true Try.f10.params.toList args.toList ds p := hA0
  rw [Try.params10] at hA hval
  obtain ⟨v0, vs0, d0, ds0, p0, q0, hargs, rfl, rfl, h0, r0⟩ := trodAll_cons hA
  obtain ⟨v1, vs1, d1, ds1, p1, q1, rfl, rfl, rfl, h1, r1⟩ := trodAll_cons r0
  obtain ⟨v2, vs2, d2, ds2, p2, q2, rfl, rfl, rfl, h2, r2⟩ := trodAll_cons r1
  obtain ⟨v3, vs3, d3, ds3, p3, q3, rfl, rfl, rfl, h3, r3⟩ := trodAll_cons r2
  obtain ⟨v4, vs4, d4, ds4, p4, q4, rfl, rfl, rfl, h4, r4⟩ := trodAll_cons r3
  obtain ⟨rfl, rfl, rfl⟩ := trodAll_nil r4
  obtain rfl : args = #[v0, v1, v2, v3, v4] := by cases args; simp_all
  obtain ⟨rfl, rfl⟩ := trodVars_none hV
  have k0 := h0
  have lt0 : ∀ x ∈ p0, x.block < W.heap.size := by obtain ⟨m, hm⟩ := k0; exact DataW.trod_lt m _ _ _ hm
  have k1 := h1
  have lt1 : ∀ x ∈ p1, x.block < W.heap.size := by obtain ⟨m, hm⟩ := k1; exact DataW.trod_lt m _ _ _ hm
  have k2 := h2
  have lt2 : ∀ x ∈ p2, x.block < W.heap.size := by obtain ⟨m, hm⟩ := k2; exact DataW.trod_lt m _ _ _ hm
  have k3 := h3
  have lt3 : ∀ x ∈ p3, x.block < W.heap.size := by obtain ⟨m, hm⟩ := k3; exact DataW.trod_lt m _ _ _ hm
  have k4 := h4
  have lt4 : ∀ x ∈ p4, x.block < W.heap.size := by obtain ⟨m, hm⟩ := k4; exact DataW.trod_lt m _ _ _ hm
  obtain ⟨a0, rfl, _, _, w0⟩ := open_int Try.underlying5 (hval 0 5 v0 rfl rfl) h0
  obtain ⟨a1, rfl, _, _, w1⟩ := open_int Try.underlying5 (hval 1 5 v1 rfl rfl) h1
  obtain ⟨a2, rfl, _, _⟩ := open_bool Try.underlying4 (hval 2 4 v2 rfl rfl) h2
  obtain ⟨a3, rfl, _, _⟩ := open_bool Try.underlying4 (hval 3 4 v3 rfl rfl) h3
  obtain ⟨a4, rfl, _, _⟩ := open_bool Try.underlying4 (hval 4 4 v4 rfl rfl) h4
  clear hA0 hval0
  refine (walk a0 a1 a2 a3 a4 W (bounds_u8 w0) (bounds_u8 w1)).mono fun e W' ⟨he, bel⟩ => ?_
  subst he
  exact ⟨_, rfl, _, _, _, [], _, [], hW', trodAll_mk1 (shut_bool Try.underlying4 _), (trodAll_cons_mk (Below.trod laidOut (by kernel_rfl) (of_decide_eq_true (by kernel_rfl)) k0 bel lt0) (trodAll_cons_mk (Below.trod laidOut (by kernel_rfl) (of_decide_eq_true (by kernel_rfl)) k1 bel lt1) (trodAll_cons_mk (Below.trod laidOut (by kernel_rfl) (of_decide_eq_true (by kernel_rfl)) k2 bel lt2) (trodAll_cons_mk (Below.trod laidOut (by kernel_rfl) (of_decide_eq_true (by kernel_rfl)) k3 bel lt3) (trodAll_cons_mk (Below.trod laidOut (by kernel_rfl) (of_decide_eq_true (by kernel_rfl)) k4 bel lt4) trodAll_mk0))))), rfl, bel.frame _, fun h => by cases h⟩
theorem holds : Rows.latticeDegreesRow.holds Try.pinned (OpenSpec.ofChange Rows.latticeDegreesSpec) :=
  OpenClaim.holds_of_wide 10 Try.f10 rfl rfl rfl rfl rfl rfl rfl ⟨rfl, rfl, rfl, rfl, rfl⟩ rfl rfl rfl rfl rfl (by kernel_rfl) Try.func10 (by kernel_rfl)
    (of_decide_eq_true (by kernel_rfl)) (by unfold Func.isWrapper; first | (rw [if_pos (by decide +kernel)]; kernel_rfl) | (rw [if_neg (by decide +kernel)]; exact ⟨rfl, rfl⟩))
    (fun os started H enc _ => lifted os started H enc)
theorem proved : Rows.LatticeDegreesSaid := holds
end lawDegrees
end Go.Proofs.Ythgeccmphnppgaa
