/- CheckedRanks: for any three fractions the law answers true: comparing orders fractions, and reducing keeps what they are worth. No condition. -/
import Derived.Test.YtomgdleoegaooaaFr
import Derived.Test.YtomgdleoegaooaaRk
set_option linter.unusedVariables false
set_option linter.unusedSimpArgs false
namespace Go.Proofs.Ytomgdleoegaooaa.lawRanks
open Go.ChangeShapes Go.WideShapes Go.ChangeAt Go.RowKit Go.Joins

set_option maxRecDepth 100000 in
set_option maxHeartbeats 1000000 in
theorem twins (n d m f : Int) (hn : I64 n) (hd : I64 d) (hm : I64 m) (hf : I64 f) (h1 : 1 ≤ d) (h2 : 1 ≤ f) (w : World) :
    Calls Try.prog 28 #[.agg #[.int .i64 n, .int .i64 d], .agg #[.int .i64 m, .int .i64 f]] w fun e w' => e = .returned (.bool true) ∧ Below w.heap.size w w' := by
  obtain ⟨i1, i2, i3⟩ := low_i64 hn hd (by omega)
  obtain ⟨j1, j2, j3⟩ := low_i64 hm hf (by omega)
  have R1 := hide (red_ok n d hn hd (by omega) i1 i2)
  have R2 := hide (red_ok m f hm hf (by omega) j1 j2)
  have C1 := hide (comp_ok n d m f hn hd hm hf h1 h2)
  have C2 := hide (comp_ok n d (rN n d) (rD n d) hn hd i1 i2 h1 i3)
  rw [show sgn (n * rD n d) (rN n d * d) = 0 from sgn_zero.2 (low_own (by omega))] at C2
  have SM := hide (low_same (n := n) (m := m) (show 0 < d by omega) (show 0 < f by omega))
  have DV := hide (fun k hk h => low_dvd (n := n) (show 0 < d by omega) k hk h)
  generalize rN n d = N at *
  generalize rD n d = D at *
  generalize rN m f = M at *
  generalize rD m f = F at *
  have EQ : Hid ((sgn (n * f) (m * d) = 0 ∧ N = M ∧ D = F) ∨ (sgn (n * f) (m * d) ≠ 0 ∧ ¬ (N = M ∧ D = F))) := by
    have := SM.out
    by_cases hz : n * f = m * d
    · exact .inl ⟨sgn_zero.2 hz, this.1 hz⟩
    · exact .inr ⟨fun h => hz (sgn_zero.1 h), fun h => hz (this.2 h)⟩
  generalize sgn (n * f) (m * d) = S at *
  clear hn hd hm hf SM h1 h2 i1 i2 j1 j2
  go_enter Try.func28, Try.ntmps28
  go_wp2_with fail
  refine (R1.out _).mono ?_
  rintro e w1 ⟨rfl, b1⟩
  have a1 := hide (((At.new w (.int .i64 n) (.int .i64 d) 34).alloc #[.int .i64 m, .int .i64 f] 34).step b1)
  have a2 := hide ((At.new (w.alloc (.cells #[.int .i64 n, .int .i64 d] 34)) (.int .i64 m) (.int .i64 f) 34).step b1)
  have bb1 : Below w.heap.size w w1 := (((Below.refl w.heap.size w).alloc (Nat.le_refl _) _).alloc (by simp) _).trans (b1.mono (by simp; omega))
  clear b1
  rw [show (w.alloc (.cells #[.int .i64 n, .int .i64 d] 34)).heap.size = w.heap.size + 1 by simp] at a2
  obtain ⟨g1, g2, g3⟩ := a1.out
  obtain ⟨g4, g5, g6⟩ := a2.out
  go_wp2_with fail
  refine (R2.out _).mono ?_
  rintro e w2 ⟨rfl, b2⟩
  have a3 := hide ((a1.out.alloc #[.int .i64 N, .int .i64 D] 34).step b2)
  have a4 := hide ((a2.out.alloc #[.int .i64 N, .int .i64 D] 34).step b2)
  have a5 := hide ((At.new w1 (.int .i64 N) (.int .i64 D) 34).step b2)
  have bb2 : Below w.heap.size w w2 := (bb1.alloc bb1.size _).trans (b2.mono (by have := bb1.size; simp; omega))
  clear b2 a1 a2 g1 g2 g3 g4 g5 g6
  have a6 := hide (a3.out.alloc #[.int .i64 M, .int .i64 F] 34)
  have a7 := hide (a4.out.alloc #[.int .i64 M, .int .i64 F] 34)
  have a8 := hide (a5.out.alloc #[.int .i64 M, .int .i64 F] 34)
  have a9 := hide (At.new w2 (.int .i64 M) (.int .i64 F) 34)
  obtain ⟨g1, g2, g3⟩ := a3.out
  obtain ⟨g4, g5, g6⟩ := a4.out
  obtain ⟨g7, g8, g9⟩ := a5.out
  clear a3 a4 a5
  have i3' : decide (D < 1) = false := by simp; omega
  have j3' : decide (F < 1) = false := by simp; omega
  go_wp2_with fail
  go_loop [9] (fun x => ∃ k : Nat, 2 ≤ k ∧ k ≤ 50 ∧ x = .int .i64 k) (fun x => 50 - (intOf x).toNat)
  case atStart => exact ⟨2, by omega, by omega, rfl⟩
  case round =>
    obtain ⟨k, hk, hk2, rfl⟩ := hrel
    by_cases hlt : k < 50
    · have hk1 : (1 : Int) ≤ k := by omega
      by_cases hdv : (k : Int) ∣ N
      · have t1 : (N.tmod (k : Int) == 0) = true := by rw [beq_iff_eq]; exact Int.dvd_iff_tmod_eq_zero.1 hdv
        have t2 : (D % (k : Int) == 0) = false := by
          rw [beq_eq_false_iff_ne]
          intro h
          exact DV.out k (by omega) hdv (Int.dvd_of_emod_eq_zero h)
        clear hdv
        go_wp2_with fail
        go_round
        case rel => exact ⟨k + 1, by omega, by omega, by go_num⟩
        case measure => simp [intOf]; omega
      · have t1 : (N.tmod (k : Int) == 0) = false := by
          rw [beq_eq_false_iff_ne]
          intro h
          exact hdv (Int.dvd_of_tmod_eq_zero h)
        clear hdv
        go_wp2_with fail
        go_round
        case rel => exact ⟨k + 1, by omega, by omega, by go_num⟩
        case measure => simp [intOf]; omega
    · clear g1 g2 g3 g4 g5 g6 g7 g8 g9 i3' j3'
      obtain ⟨g1, g2, g3⟩ := a6.out
      obtain ⟨g4, g5, g6⟩ := a7.out
      go_wp2_with fail
      refine (C1.out _).mono ?_
      rintro e w3 ⟨rfl, b3⟩
      have a1 := hide (a6.out.step b3)
      have a2 := hide (a7.out.step b3)
      have a3 := hide (a8.out.step b3)
      have a4 := hide (a9.out.step b3)
      have bb3 : Below w.heap.size w w3 := (bb2.alloc bb2.size _).trans (b3.mono (by have := bb2.size; simp; omega))
      clear b3 a6 a7 a8 a9 g1 g2 g3 g4 g5 g6
      obtain ⟨g1, g2, g3⟩ := a1.out
      obtain ⟨g4, g5, g6⟩ := a3.out
      go_wp2_with fail
      refine (C2.out _).mono ?_
      rintro e w4 ⟨rfl, b4⟩
      have a5 := hide (a3.out.step b4)
      have a6 := hide (a4.out.step b4)
      have bb4 : Below w.heap.size w w4 := bb3.trans (b4.mono bb3.size)
      clear b4 a1 a2 a3 a4 g1 g2 g3 g4 g5 g6
      obtain ⟨g1, g2, g3⟩ := a5.out
      obtain ⟨g4, g5, g6⟩ := a6.out
      rcases EQ.out with ⟨h1, h2, h3⟩ | ⟨h1, h2⟩
      · subst h1 h2 h3
        go_wp2_with fail
        go_ret
        exact ⟨rfl, bb4⟩
      · have t1 : (S == 0) = false := by rw [beq_eq_false_iff_ne]; exact h1
        clear h1
        go_wp2_with fail
        all_goals (go_ret; exact ⟨rfl, bb4⟩)

/-- three fractions in blocks of their own -/
def T3 (w : World) (n1 d1 n2 d2 n3 d3 : Int) (W : World) : Prop :=
  At w.heap.size (.int .i64 n1) (.int .i64 d1) W ∧ At (w.heap.size + 1) (.int .i64 n2) (.int .i64 d2) W ∧ At (w.heap.size + 1 + 1) (.int .i64 n3) (.int .i64 d3) W ∧ Below w.heap.size w W
theorem T3.step {w W W' : World} {n1 d1 n2 d2 n3 d3 : Int} (h : T3 w n1 d1 n2 d2 n3 d3 W) (b : Below W.heap.size W W') : T3 w n1 d1 n2 d2 n3 d3 W' :=
  ⟨h.1.step b, h.2.1.step b, h.2.2.1.step b, h.2.2.2.trans (b.mono h.2.2.2.size)⟩
theorem T3.start (w : World) (n1 d1 n2 d2 n3 d3 : Int) : T3 w n1 d1 n2 d2 n3 d3 (((w.alloc (.cells #[.int .i64 n1, .int .i64 d1] 34)).alloc (.cells #[.int .i64 n2, .int .i64 d2] 34)).alloc (.cells #[.int .i64 n3, .int .i64 d3] 34)) := by
  have e1 : (w.alloc (.cells #[.int .i64 n1, .int .i64 d1] 34)).heap.size = w.heap.size + 1 := by simp
  have e2 : ((w.alloc (.cells #[.int .i64 n1, .int .i64 d1] 34)).alloc (.cells #[.int .i64 n2, .int .i64 d2] 34)).heap.size = w.heap.size + 1 + 1 := by simp
  have h2 := At.new (w.alloc (.cells #[.int .i64 n1, .int .i64 d1] 34)) (.int .i64 n2) (.int .i64 d2) 34
  have h3 := At.new ((w.alloc (.cells #[.int .i64 n1, .int .i64 d1] 34)).alloc (.cells #[.int .i64 n2, .int .i64 d2] 34)) (.int .i64 n3) (.int .i64 d3) 34
  rw [e1] at h2
  rw [e2] at h3
  exact ⟨((At.new w _ _ 34).alloc _ _).alloc _ _, h2.alloc _ _, h3, (((Below.refl w.heap.size w).alloc (Nat.le_refl _) _).alloc (by simp) _).alloc (by simp; omega) _⟩

set_option maxRecDepth 100000 in
set_option maxHeartbeats 1000000 in
theorem walk (n1 d1 n2 d2 n3 d3 : Int) (hn1 : I64 n1) (hd1 : I64 d1) (hn2 : I64 n2) (hd2 : I64 d2) (hn3 : I64 n3) (hd3 : I64 d3) (w : World) :
    Calls Try.prog 11 #[.agg #[.int .i64 n1, .int .i64 d1], .agg #[.int .i64 n2, .int .i64 d2], .agg #[.int .i64 n3, .int .i64 d3]] w fun e w' => e = .returned (.bool true) ∧ Below w.heap.size w w' := by
  have T := hide (T3.start w n1 d1 n2 d2 n3 d3)
  by_cases p1 : d1 < 1
  · go_enter Try.func11, Try.ntmps11
    go_wp2_with fail
    refine (works _).mono ?_
    rintro e w1 ⟨rfl, b1⟩
    have t1 := hide (T.out.step b1)
    clear b1
    go_wp2_with fail
    go_ret
    exact ⟨rfl, t1.out.2.2.2⟩
  by_cases p2 : d2 < 1
  · have q1 : decide (d1 < 1) = false := by simpa using p1
    go_enter Try.func11, Try.ntmps11
    go_wp2_with fail
    refine (works _).mono ?_
    rintro e w1 ⟨rfl, b1⟩
    have t1 := hide (T.out.step b1)
    clear b1
    go_wp2_with fail
    go_ret
    exact ⟨rfl, t1.out.2.2.2⟩
  by_cases p3 : d3 < 1
  · have q1 : decide (d1 < 1) = false := by simpa using p1
    have q2 : decide (d2 < 1) = false := by simpa using p2
    go_enter Try.func11, Try.ntmps11
    go_wp2_with fail
    refine (works _).mono ?_
    rintro e w1 ⟨rfl, b1⟩
    have t1 := hide (T.out.step b1)
    clear b1
    go_wp2_with fail
    go_ret
    exact ⟨rfl, t1.out.2.2.2⟩
  have q1 : decide (d1 < 1) = false := by simpa using p1
  have q2 : decide (d2 < 1) = false := by simpa using p2
  have q3 : decide (d3 < 1) = false := by simpa using p3
  have C1 := hide (comp_ok n1 d1 n2 d2 hn1 hd1 hn2 hd2 (by omega) (by omega))
  have C2 := hide (comp_ok n2 d2 n1 d1 hn2 hd2 hn1 hd1 (by omega) (by omega))
  have C3 := hide (comp_ok n2 d2 n3 d3 hn2 hd2 hn3 hd3 (by omega) (by omega))
  have C4 := hide (comp_ok n1 d1 n3 d3 hn1 hd1 hn3 hd3 (by omega) (by omega))
  have K1 := hide (twins n1 d1 n2 d2 hn1 hd1 hn2 hd2 (by omega) (by omega))
  have K2 := hide (twins n2 d2 n3 d3 hn2 hd2 hn3 hd3 (by omega) (by omega))
  have xy : sgn (n1 * d2) (n2 * d1) = -sgn (n2 * d1) (n1 * d2) := sgn_neg _ _
  have tr1 : sgn (n1 * d2) (n2 * d1) ≤ 0 → sgn (n2 * d3) (n3 * d2) ≤ 0 → sgn (n1 * d3) (n3 * d1) ≤ 0 := by
    rw [sgn_le, sgn_le, sgn_le]
    exact frac_trans (by omega) (by omega) (by omega)
  have tr2 : 0 ≤ sgn (n1 * d2) (n2 * d1) → 0 ≤ sgn (n2 * d3) (n3 * d2) → 0 ≤ sgn (n1 * d3) (n3 * d1) := by
    rw [sgn_ge, sgn_ge, sgn_ge]
    exact fun a b => frac_trans (by omega) (by omega) (by omega) b a
  have bd := sgn_bd (n1 * d2) (n2 * d1)
  have bd2 := sgn_bd (n2 * d1) (n1 * d2)
  generalize sgn (n1 * d2) (n2 * d1) = x at *
  generalize sgn (n2 * d1) (n1 * d2) = y at *
  generalize sgn (n2 * d3) (n3 * d2) = z at *
  generalize sgn (n1 * d3) (n3 * d1) = u at *
  have r1 : (x != -y) = false := by rw [bne_eq_false_iff_eq]; exact xy
  have R1 : Hid ((x ≤ 0 ∧ 0 ≤ x) ∨ (x ≤ 0 ∧ ¬ 0 ≤ x) ∨ (¬ x ≤ 0 ∧ 0 ≤ x)) := by unfold Hid; omega
  have TR1 := hide tr1
  have TR2 := hide tr2
  have bdy : -1 ≤ y ∧ y ≤ 1 := bd2
  clear hn1 hd1 hn2 hd2 hn3 hd3 xy tr1 tr2 bd bd2 p1 p2 p3
  go_enter Try.func11, Try.ntmps11
  go_wp2_with fail
  refine (C1.out _).mono ?_
  rintro e w1 ⟨rfl, b1⟩
  have t1 := hide (T.out.step b1)
  clear b1 T q1 q2 q3
  obtain ⟨⟨g1, g2, g3⟩, ⟨g4, g5, g6⟩, ⟨g7, g8, g9⟩, _⟩ := t1.out
  go_wp2_with fail
  refine (C2.out _).mono ?_
  rintro e w2 ⟨rfl, b1⟩
  have t2 := hide (t1.out.step b1)
  clear b1 t1 g1 g2 g3 g4 g5 g6 g7 g8 g9
  obtain ⟨⟨g1, g2, g3⟩, ⟨g4, g5, g6⟩, ⟨g7, g8, g9⟩, _⟩ := t2.out
  go_wp2_with fail
  refine (C3.out _).mono ?_
  rintro e w3 ⟨rfl, b1⟩
  have t3 := hide (t2.out.step b1)
  clear b1 t2 g1 g2 g3 g4 g5 g6 g7 g8 g9
  obtain ⟨⟨g1, g2, g3⟩, ⟨g4, g5, g6⟩, ⟨g7, g8, g9⟩, _⟩ := t3.out
  go_wp2_with fail
  refine (C4.out _).mono ?_
  rintro e w4 ⟨rfl, b1⟩
  have t4 := hide (t3.out.step b1)
  clear b1 t3 g1 g2 g3 g4 g5 g6 g7 g8 g9
  obtain ⟨⟨g1, g2, g3⟩, ⟨g4, g5, g6⟩, ⟨g7, g8, g9⟩, _⟩ := t4.out
  have T1 := TR1.out
  have T2 := TR2.out
  have TT : Hid ((x ≤ 0 → z ≤ 0 → u ≤ 0) ∧ (0 ≤ x → 0 ≤ z → 0 ≤ u)) := ⟨T1, T2⟩
  clear T1 T2 TR1 TR2 R1
  go_wp2_with fail
  all_goals first
    | (exfalso; have hh := TT.out; omega)
    | (refine (K1.out _).mono ?_
       rintro e w5 ⟨rfl, b1⟩
       have t5 := hide (t4.out.step b1)
       clear b1 t4 g1 g2 g3 g4 g5 g6 g7 g8 g9
       obtain ⟨⟨g1, g2, g3⟩, ⟨g4, g5, g6⟩, ⟨g7, g8, g9⟩, _⟩ := t5.out
       go_wp2_with fail
       refine (K2.out _).mono ?_
       rintro e w6 ⟨rfl, b1⟩
       have t6 := hide (t5.out.step b1)
       clear b1 t5 g1 g2 g3 g4 g5 g6 g7 g8 g9
       go_wp2_with fail
       refine (works _).mono ?_
       rintro e w7 ⟨rfl, b1⟩
       have t7 := hide (t6.out.step b1)
       clear b1 t6
       go_wp2_with fail
       go_ret
       exact ⟨rfl, t7.out.2.2.2⟩)
theorem own : ownKnob Try.prog.godebug = none := by kernel_rfl
theorem laidOut : laidOutB Try.prog = true := by kernel_rfl
theorem cellsFrac : Try.prog.cellsOf 34 = 2 := by kernel_rfl
set_option maxRecDepth 100000 in
theorem lifted (os : Os) (started : os.Started) (H : Type) (enc : TypeId × Value → H) :
    ReturnsInHanded {} Try.checked os 11 .any (Rows.checkedRanksSpec.pre6 enc Try.prog Try.f11 Rows.checkedRanksRow.domain false) (Rows.checkedRanksSpec.post enc Try.prog Try.f11 false true false false) := by
  refine returnsInHanded_of_change (C := Try.checked) own started (by kernel_rfl) Try.func11
    (ChangeSpec.witness6 (enc := enc) (C := Try.checked) false ⟨#[], #[.agg #[.int .i64 0, .int .i64 0], .agg #[.int .i64 0, .int .i64 0], .agg #[.int .i64 0, .int .i64 0]], []⟩ 8 (by kernel_rfl) (by kernel_rfl) (by kernel_rfl) (by kernel_rfl)) ?_
  intro W base args ds gs before hval0 hW hcnd _
  have hval : ∀ (j : Nat) t v, Try.f11.params[j]? = some t → args[j]? = some v → Value.okWide Try.prog W .any base t v := hval0
  have hW' := hW
  obtain ⟨p, q, hA0, hV, rfl, hfz, hnd⟩ := hW
  have hA : DataW.TrodAll enc Try.prog W 0 (fun _ => true) true Try.f11.params.toList args.toList ds p := hA0
  rw [Try.params11] at hA hval
  obtain ⟨v0, vs0, d0, ds0, p0, q0, hargs, rfl, rfl, h0, r0⟩ := trodAll_cons hA
  obtain ⟨v1, vs1, d1, ds1, p1, q1, rfl, rfl, rfl, h1, r1⟩ := trodAll_cons r0
  obtain ⟨v2, vs2, d2, ds2, p2, q2, rfl, rfl, rfl, h2, r2⟩ := trodAll_cons r1
  obtain ⟨rfl, rfl, rfl⟩ := trodAll_nil r2
  obtain rfl : args = #[v0, v1, v2] := by cases args; simp_all
  obtain ⟨rfl, rfl⟩ := trodVars_none hV
  have k0 := h0
  have lt0 : ∀ x ∈ p0, x.block < W.heap.size := by obtain ⟨m, hm⟩ := k0; exact DataW.trod_lt m _ _ _ hm
  have k1 := h1
  have lt1 : ∀ x ∈ p1, x.block < W.heap.size := by obtain ⟨m, hm⟩ := k1; exact DataW.trod_lt m _ _ _ hm
  have k2 := h2
  have lt2 : ∀ x ∈ p2, x.block < W.heap.size := by obtain ⟨m, hm⟩ := k2; exact DataW.trod_lt m _ _ _ hm
  obtain ⟨c0a, c0b, y0a, y0b, m0, rfl, _, _, hy0a, hy0b⟩ := open_agg2 Try.underlying34 (by kernel_rfl) cellsFrac (hval 0 34 v0 rfl rfl) h0
  obtain ⟨a0a, e0a, _, w0a⟩ := DataW.trod_int Try.underlying2 hy0a
  simp at e0a
  subst e0a
  obtain ⟨a0b, e0b, _, w0b⟩ := DataW.trod_int Try.underlying2 hy0b
  simp at e0b
  subst e0b
  obtain ⟨c1a, c1b, y1a, y1b, m1, rfl, _, _, hy1a, hy1b⟩ := open_agg2 Try.underlying34 (by kernel_rfl) cellsFrac (hval 1 34 v1 rfl rfl) h1
  obtain ⟨a1a, e1a, _, w1a⟩ := DataW.trod_int Try.underlying2 hy1a
  simp at e1a
  subst e1a
  obtain ⟨a1b, e1b, _, w1b⟩ := DataW.trod_int Try.underlying2 hy1b
  simp at e1b
  subst e1b
  obtain ⟨c2a, c2b, y2a, y2b, m2, rfl, _, _, hy2a, hy2b⟩ := open_agg2 Try.underlying34 (by kernel_rfl) cellsFrac (hval 2 34 v2 rfl rfl) h2
  obtain ⟨a2a, e2a, _, w2a⟩ := DataW.trod_int Try.underlying2 hy2a
  simp at e2a
  subst e2a
  obtain ⟨a2b, e2b, _, w2b⟩ := DataW.trod_int Try.underlying2 hy2b
  simp at e2b
  subst e2b
  clear hA0 hval0
  refine (walk a0a a0b a1a a1b a2a a2b (wf_I64 w0a) (wf_I64 w0b) (wf_I64 w1a) (wf_I64 w1b) (wf_I64 w2a) (wf_I64 w2b) W).mono fun e W' ⟨he, bel⟩ => ?_
  subst he
  exact ⟨_, rfl, _, _, _, [], _, [], hW', trodAll_mk1 (shut_bool Try.underlying4 _), (trodAll_cons_mk (Below.trod laidOut (by kernel_rfl) (of_decide_eq_true (by kernel_rfl)) k0 bel lt0) (trodAll_cons_mk (Below.trod laidOut (by kernel_rfl) (of_decide_eq_true (by kernel_rfl)) k1 bel lt1) (trodAll_cons_mk (Below.trod laidOut (by kernel_rfl) (of_decide_eq_true (by kernel_rfl)) k2 bel lt2) trodAll_mk0))), rfl, bel.frame _, fun h => by cases h⟩
theorem holds : Rows.checkedRanksRow.holds Try.pinned (OpenSpec.ofChange Rows.checkedRanksSpec) :=
  OpenClaim.holds_of_wide 11 Try.f11 rfl rfl rfl rfl rfl rfl rfl ⟨rfl, rfl, rfl, rfl, rfl⟩ rfl rfl rfl rfl rfl (by kernel_rfl) Try.func11 (by kernel_rfl)
    (of_decide_eq_true (by kernel_rfl)) (by unfold Func.isWrapper; first | (rw [if_pos (by decide +kernel)]; kernel_rfl) | (rw [if_neg (by decide +kernel)]; exact ⟨rfl, rfl⟩))
    (fun os started H enc _ => lifted os started H enc)
theorem proved : Rows.CheckedRanksSaid := holds
end Go.Proofs.Ytomgdleoegaooaa.lawRanks
