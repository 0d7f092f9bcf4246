/- An open grid is the closed one without the edges that lead round. -/
import Derived.Test.YthgeccmphnppgaaX
import Derived.Test.YthgeccmphnppgaaOp
import Derived.Test.YthgeccmphnppgaaRows
import Derived.Deep.CutRange
set_option linter.unusedVariables false
set_option linter.unusedSimpArgs false
namespace Go.Proofs.Ythgeccmphnppgaa
open Go.RowKit
namespace lawOpens
open Go.ChangeShapes Go.WideShapes Go.ChangeAt Go.RowKit Go.Joins
set_option maxRecDepth 100000 in
set_option maxHeartbeats 16000000 in
theorem walk (a0 : Int) (a1 : Int) (a2 : Bool) (a3 : Bool) (a4 : Bool) (w : World) (b0 : 0 ≤ a0 ∧ a0 ≤ 255) (b1 : 0 ≤ a1 ∧ a1 ≤ 255) : Calls Try.prog 12 #[.int .u8 a0, .int .u8 a1, .bool a2, .bool a3, .bool a4] w fun e w' => e = .returned (.bool true) ∧ Below w.heap.size w w' := by
  obtain ⟨a, rfl⟩ : ∃ a : Nat, a0 = (a : Int) := ⟨a0.toNat, by omega⟩
  obtain ⟨b, rfl⟩ : ∃ b : Nat, a1 = (b : Int) := ⟨a1.toNat, by omega⟩
  have S := hide (sides_t a b (by omega) (by omega) w)
  have G := hide (sides_grid a b)
  obtain ⟨s1, s2⟩ := side_b a
  obtain ⟨s3, s4⟩ := side_b b
  generalize a % 24 + 1 = x at *
  generalize b % 24 + 1 = y at *
  have E1 := hide (either_t (x : Int) (y : Int) a2 a3 a4 w)
  have E2 := fun W => hide (either_t (x : Int) (y : Int) false false a4 W)
  rw [gridR_yes a2 a3 (dOf a4) G.out] at E1
  rw [gridR_yes false false (dOf a4) G.out] at E2
  have FS := hide (gE_stay s1 a2 a3 (dOf_ok a4).2 (x * y) (Nat.le_refl _))
  have NT := hide (show ∀ t ∈ gE x y a2 a3 (dOf a4) (x * y), ∃ u v : Nat, u ≤ 1000 ∧ v ≤ 1000 ∧ t = ((u : Int), (v : Int), 0) from fun t ht => by
    obtain ⟨u, v, q1, q2, q3⟩ := gE_nat s1 s3 ht
    have q4 := Nat.mul_le_mul s2 s4
    rw [Nat.mul_comm] at q2
    exact ⟨u, v, by omega, by omega, q3⟩)
  have LE := hide (show (gE x y a2 a3 (dOf a4) (x * y)).length ≤ 2000 by
    have h1 := gE_len x y a2 a3 (dOf a4) (x * y)
    have h2 := Nat.mul_le_mul s2 s4
    have h3 := Nat.mul_le_mul h2 (dOf_ok a4).1
    omega)
  generalize gE x y a2 a3 (dOf a4) (x * y) = l at *
  generalize gE x y false false (dOf a4) (x * y) = l2 at *
  generalize ((x * y : Nat) : Int) = xy at *
  clear G b0 b1
  have xw : IntKind.i64.wrap ((x : Int) - 1) = ((x - 1 : Nat) : Int) := by rw [IntKind.wrap_i64]; omega
  have yw : IntKind.i64.wrap ((y : Int) - 1) = ((y - 1 : Nat) : Int) := by rw [IntKind.wrap_i64]; omega
  have x1 : (1 : Int) ≤ (x : Int) := by omega
  have y1 : (1 : Int) ≤ (y : Int) := by omega
  have x0 : x ≠ 0 := by omega
  have y0 : y ≠ 0 := by omega
  go_enter Try.func12, Try.ntmps12
  go_wp2_with fail
  refine S.out.mono ?_
  rintro e w' ⟨rfl, rfl⟩
  go_wp2_with fail
  refine E1.out.mono ?_
  rintro e w1 ⟨v1, rfl, rd1, bw1⟩
  simp only at rd1
  obtain ⟨p1, c1, hv1⟩ := rd1.slice
  subst hv1
  have R1 := hide rd1
  have B1 := hide bw1
  have T2 := hide (E2 w1).out
  clear rd1 bw1 E1 E2
  go_wp2_with fail
  refine T2.out.mono ?_
  rintro e w2 ⟨v2, rfl, rd2, bw2⟩
  simp only at rd2
  obtain ⟨p2, c2, hv2⟩ := rd2.slice
  subst hv2
  have R2 := hide rd2
  have R1' := hide (R1.out.keep bw2)
  have B2 := hide (B1.out.trans (bw2.mono B1.out.size))
  clear rd2 bw2 T2 R1 B1
  generalize hn : l.length = n at *
  generalize l2.length = n2 at *
  have HN := hide hn
  have nb := LE.out
  clear hn
  go_wp2_with fail
  go_loopw [10, 19, 20] (fun z v i wr => z = .bool false ∧ ∃ k : Nat, k ≤ n ∧ i = .int .i64 (k : Int) ∧ Hid (wr.ownsRow w2.heap.size 50 3 v ((l.take k).filter (stay x y)).length (ecs ((l.take k).filter (stay x y)))) ∧ Hid (Kp [] w2 wr)) (fun _ _ i _ => n - (intOf i).toNat)
  case atStart => exact ⟨rfl, 0, by omega, rfl, by rw [List.take_zero]; exact World.ownsRow_nil _ _ _ _, Kp.refl _ _⟩
  case round =>
    obtain ⟨rfl, k, hk, rfl, hR, hK⟩ := hrel
    by_cases hkn : k < n
    · have dk : decide (k < n) = true := by simp; omega
      have dki : decide ((k : Int) < (n : Int)) = true := by simp; omega
      have wk : IntKind.i64.wrap ((k : Int) + 1) = ((k + 1 : Nat) : Int) := by rw [IntKind.wrap_i64]; omega
      obtain ⟨t, ht⟩ : ∃ t, l[k]? = some t := ⟨_, List.getElem?_eq_getElem (by rw [HN.out]; exact hkn)⟩
      have bw := hK.out.below (B := w2.heap.size) (by simp) (Nat.le_refl _)
      obtain ⟨b1, o1, rfl, e1, e2, e3⟩ := (R1'.out.keep bw).at ht
      obtain ⟨u, v, ub, vb, rfl⟩ := NT.out t (List.mem_of_getElem? ht)
      have NX := hide (filter_next (f := stay x y) ht)
      rw [stay_nat] at NX
      have kl : ((l.take k).filter (stay x y)).length ≤ 20000000 := by have := List.length_filter_le (stay x y) (l.take k); have := List.length_take_le k l; omega
      have KL := hide kl
      generalize (l.take k).filter (stay x y) = ll at *
      clear ht bw kl
      simp only at e1 e2 e3
      have um : (u : Int).tmod (x : Int) = ((u % x : Nat) : Int) := by rw [Int.tmod_eq_emod_of_nonneg (by omega), ← Int.natCast_emod]
      have vm : (v : Int).tmod (x : Int) = ((v % x : Nat) : Int) := by rw [Int.tmod_eq_emod_of_nonneg (by omega), ← Int.natCast_emod]
      have ud : (u : Int).tdiv (x : Int) = ((u / x : Nat) : Int) := by rw [Int.tdiv_eq_ediv_of_nonneg (by omega), ← Int.natCast_ediv]
      have vd : (v : Int).tdiv (x : Int) = ((v / x : Nat) : Int) := by rw [Int.tdiv_eq_ediv_of_nonneg (by omega), ← Int.natCast_ediv]
      have ubd : IntKind.i64.wrap ((u / x : Nat) : Int) = ((u / x : Nat) : Int) := by (have := Nat.div_le_self u x; generalize u / x = q at *; rw [IntKind.wrap_i64]; omega)
      have vbd : IntKind.i64.wrap ((v / x : Nat) : Int) = ((v / x : Nat) : Int) := by (have := Nat.div_le_self v x; generalize v / x = q at *; rw [IntKind.wrap_i64]; omega)
      generalize u % x = um' at *
      generalize v % x = vm' at *
      generalize u / x = ud' at *
      generalize v / x = vd' at *
      obtain ⟨xz, hxz⟩ : ∃ z, z = x - 1 := ⟨_, rfl⟩
      obtain ⟨yz, hyz⟩ : ∃ z, z = y - 1 := ⟨_, rfl⟩
      have RX := rnd_cases x um' vm'
      have RY := rnd_cases y ud' vd'
      rw [← hxz] at RX xw
      rw [← hyz] at RY yw
      clear ub vb hxz hyz
      have HX := hide RX
      have HY := hide RY
      clear RX RY
      go_wp2_with fail
      go_quiet (fail)
      have KD := hide (hK.out.trans (Kp.drewN [] wr nq) (by simp))
      have RD := hide (show (wr.drewN nq).ownsRow w2.heap.size 50 3 u19 ll.length (ecs ll) from (Kp.drewN [] wr nq).row hR.out (by simp))
      have f1 : (wr.drewN nq).cell? ⟨b1, o1 + k * 3, none⟩ = some (.int .i64 (u : Int)) := e1
      have f2 : (wr.drewN nq).cell? ⟨b1, o1 + k * 3 + 1, none⟩ = some (.int .i64 (v : Int)) := e2
      have f3 : (wr.drewN nq).cell? ⟨b1, o1 + k * 3 + 2, none⟩ = some (.int .i64 0) := e3
      generalize wr.drewN nq = wz at *
      clear e1 e2 e3 hR hK
      have HX' := HX.out
      have HY' := HY.out
      clear HX HY
      rcases HX' with ⟨rx, hx1⟩ | ⟨rx, hx1, hx2⟩ | ⟨rx, hx1, rfl, hx3⟩ | ⟨rx, hx1, rfl, rfl⟩ <;> rcases HY' with ⟨ry, hy1⟩ | ⟨ry, hy1, hy2⟩ | ⟨ry, hy1, rfl, hy3⟩ | ⟨ry, hy1, rfl, rfl⟩
      all_goals
        rw [rx, ry] at NX
        try (have N0 := hide (show List.filter (stay x y) (List.take (k + 1) l) = ll by (rw [NX.out]; exact List.append_nil ll)))
        try (have dx1 : decide ((3 : Int) ≤ (x : Int)) = true := by (simp <;> omega))
        try (have dx1 : decide ((3 : Int) ≤ (x : Int)) = false := by (simp <;> omega))
        try (have dy1 : decide ((3 : Int) ≤ (y : Int)) = true := by (simp <;> omega))
        try (have dy1 : decide ((3 : Int) ≤ (y : Int)) = false := by (simp <;> omega))
        try (have dx2 : ((um' : Int) == (xz : Int)) = false := by (simp <;> omega))
        try (have dx3 : ((vm' : Int) == (0 : Int)) = false := by (simp <;> omega))
        try (have dy2 : ((ud' : Int) == (yz : Int)) = false := by (simp <;> omega))
        try (have dy3 : ((vd' : Int) == (0 : Int)) = false := by (simp <;> omega))
        try (have dx2p : ¬ (um' : Int) = (xz : Int) := by omega)
        try (have dx3p : ¬ (vm' : Int) = (0 : Int) := by omega)
        try (have dy2p : ¬ (ud' : Int) = (yz : Int) := by omega)
        try (have dy3p : ¬ (vd' : Int) = (0 : Int) := by omega)
        clear rx ry
        go_wp2_with (first | (at_builtin; refine wpList_push wz rfl _ _ rfl w2.heap.size u19 ll ((u : Int), (v : Int), 0) rfl rfl RD.out KL.out KD.out.size ?_; intro v' w' hr hk2; have KC := hide (hk2 w2 KD.out (Nat.le_refl _)); have NR := hide hr; clear hr hk2))
        go_roundw
        case rel => first
          | exact ⟨rfl, k + 1, by omega, rfl, by rw [N0.out]; exact RD.out, KD.out⟩
          | exact ⟨rfl, k + 1, by omega, rfl, by rw [NX.out]; exact NR.out, KC.out⟩
        case measure => simp [intOf]; omega
    · have : k = n := by omega
      subst this
      have dk : decide (k < k) = false := by simp
      have dki : decide ((k : Int) < (k : Int)) = false := by simp
      have RS := hide (show RdE wr u19 l2 by have := RdE.of_row hR.out; rw [← HN.out, List.take_length, FS.out] at this; exact this)
      have BK := hK.out.below (B := w2.heap.size) (by simp) (Nat.le_refl _)
      obtain ⟨p3, c3, h3⟩ := RS.out.slice
      subst h3
      have LL := hide (show l2.length ≤ 1000000 by rw [← FS.out]; have h1 := List.length_filter_le (stay x y) l; have h2 := HN.out; omega)
      have SE := hide (same_e wr _ _ l2 RS.out (R2.out.keep BK) LL.out)
      have B3 := hide (B2.out.trans (BK.mono B2.out.size))
      clear BK
      go_wp2_with fail
      refine SE.out.mono ?_
      rintro e w5 ⟨rfl, bw5⟩
      have B5 := hide (B3.out.trans (bw5.mono B3.out.size))
      clear bw5 SE B3
      go_wp2_with fail
      refine (works _).mono ?_
      rintro e w4 ⟨rfl, bw4⟩
      have B4 := hide (B5.out.trans (bw4.mono B5.out.size))
      clear bw4 B5
      go_wp2_with fail
      go_ret
      exact ⟨rfl, B4.out⟩
theorem own : ownKnob Try.prog.godebug = none := by kernel_rfl
theorem laidOut : laidOutB Try.prog = true := by kernel_rfl
set_option maxRecDepth 100000 in
theorem lifted (os : Os) (started : os.Started) (H : Type) (enc : TypeId × Value → H) :
    ReturnsInHanded {} Try.checked os 12 .any (Rows.latticeOpensSpec.pre6 enc Try.prog Try.f12 Rows.latticeOpensRow.domain false) (Rows.latticeOpensSpec.post enc Try.prog Try.f12 false true false false) := by
  refine returnsInHanded_of_change (C := Try.checked) own started (by kernel_rfl) Try.func12
    (ChangeSpec.witness6 (enc := enc) (C := Try.checked) false ⟨#[], #[.int .u8 0, .int .u8 0, .bool false, .bool false, .bool false], []⟩ 8 (by kernel_rfl) (by kernel_rfl) (by kernel_rfl) (by kernel_rfl)) ?_
  intro W base args ds gs before hval0 hW hcnd _
  have hval : ∀ (j : Nat) t v, Try.f12.params[j]? = some t → args[j]? = some v → Value.okWide Try.prog W .any base t v := hval0
  have hW' := hW
  obtain ⟨p, q, hA0, hV, rfl, hfz, hnd⟩ := hW
  have hA : DataW.TrodAll enc Try.prog W 0 (fun _ => true) true Try.f12.params.toList args.toList ds p := hA0
  rw [Try.params12] at hA hval
  obtain ⟨v0, vs0, d0, ds0, p0, q0, hargs, rfl, rfl, h0, r0⟩ := trodAll_cons hA
  obtain ⟨v1, vs1, d1, ds1, p1, q1, rfl, rfl, rfl, h1, r1⟩ := trodAll_cons r0
  obtain ⟨v2, vs2, d2, ds2, p2, q2, rfl, rfl, rfl, h2, r2⟩ := trodAll_cons r1
  obtain ⟨v3, vs3, d3, ds3, p3, q3, rfl, rfl, rfl, h3, r3⟩ := trodAll_cons r2
  obtain ⟨v4, vs4, d4, ds4, p4, q4, rfl, rfl, rfl, h4, r4⟩ := trodAll_cons r3
  obtain ⟨rfl, rfl, rfl⟩ := trodAll_nil r4
  obtain rfl : args = #[v0, v1, v2, v3, v4] := by cases args; simp_all
  obtain ⟨rfl, rfl⟩ := trodVars_none hV
  have k0 := h0
  have lt0 : ∀ x ∈ p0, x.block < W.heap.size := by obtain ⟨m, hm⟩ := k0; exact DataW.trod_lt m _ _ _ hm
  have k1 := h1
  have lt1 : ∀ x ∈ p1, x.block < W.heap.size := by obtain ⟨m, hm⟩ := k1; exact DataW.trod_lt m _ _ _ hm
  have k2 := h2
  have lt2 : ∀ x ∈ p2, x.block < W.heap.size := by obtain ⟨m, hm⟩ := k2; exact DataW.trod_lt m _ _ _ hm
  have k3 := h3
  have lt3 : ∀ x ∈ p3, x.block < W.heap.size := by obtain ⟨m, hm⟩ := k3; exact DataW.trod_lt m _ _ _ hm
  have k4 := h4
  have lt4 : ∀ x ∈ p4, x.block < W.heap.size := by obtain ⟨m, hm⟩ := k4; exact DataW.trod_lt m _ _ _ hm
  obtain ⟨a0, rfl, _, _, w0⟩ := open_int Try.underlying5 (hval 0 5 v0 rfl rfl) h0
  obtain ⟨a1, rfl, _, _, w1⟩ := open_int Try.underlying5 (hval 1 5 v1 rfl rfl) h1
  obtain ⟨a2, rfl, _, _⟩ := open_bool Try.underlying4 (hval 2 4 v2 rfl rfl) h2
  obtain ⟨a3, rfl, _, _⟩ := open_bool Try.underlying4 (hval 3 4 v3 rfl rfl) h3
  obtain ⟨a4, rfl, _, _⟩ := open_bool Try.underlying4 (hval 4 4 v4 rfl rfl) h4
  clear hA0 hval0
  refine (walk a0 a1 a2 a3 a4 W (bounds_u8 w0) (bounds_u8 w1)).mono fun e W' ⟨he, bel⟩ => ?_
  subst he
  exact ⟨_, rfl, _, _, _, [], _, [], hW', trodAll_mk1 (shut_bool Try.underlying4 _), (trodAll_cons_mk (Below.trod laidOut (by kernel_rfl) (of_decide_eq_true (by kernel_rfl)) k0 bel lt0) (trodAll_cons_mk (Below.trod laidOut (by kernel_rfl) (of_decide_eq_true (by kernel_rfl)) k1 bel lt1) (trodAll_cons_mk (Below.trod laidOut (by kernel_rfl) (of_decide_eq_true (by kernel_rfl)) k2 bel lt2) (trodAll_cons_mk (Below.trod laidOut (by kernel_rfl) (of_decide_eq_true (by kernel_rfl)) k3 bel lt3) (trodAll_cons_mk (Below.trod laidOut (by kernel_rfl) (of_decide_eq_true (by kernel_rfl)) k4 bel lt4) trodAll_mk0))))), rfl, bel.frame _, fun h => by cases h⟩
theorem holds : Rows.latticeOpensRow.holds Try.pinned (OpenSpec.ofChange Rows.latticeOpensSpec) :=
  OpenClaim.holds_of_wide 12 Try.f12 rfl rfl rfl rfl rfl rfl rfl ⟨rfl, rfl, rfl, rfl, rfl⟩ rfl rfl rfl rfl rfl (by kernel_rfl) Try.func12 (by kernel_rfl)
    (of_decide_eq_true (by kernel_rfl)) (by unfold Func.isWrapper; first | (rw [if_pos (by decide +kernel)]; kernel_rfl) | (rw [if_neg (by decide +kernel)]; exact ⟨rfl, rfl⟩))
    (fun os started H enc _ => lifted os started H enc)
theorem proved : Rows.LatticeOpensSaid := holds
end lawOpens
end Go.Proofs.Ythgeccmphnppgaa
