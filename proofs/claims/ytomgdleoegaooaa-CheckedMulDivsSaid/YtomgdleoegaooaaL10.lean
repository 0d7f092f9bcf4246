/- CheckedMulDivs: for any three numbers the law answers true: the quotient of the code is that of the specification. No condition. -/
import Derived.Test.YtomgdleoegaooaaFr
import Derived.Test.YtomgdleoegaooaaS11
set_option linter.unusedVariables false
set_option linter.unusedSimpArgs false
namespace Go.Proofs.Ytomgdleoegaooaa.lawMulDivs
open Go.ChangeShapes Go.WideShapes Go.ChangeAt Go.RowKit Go.Joins

theorem div_rep {z : Int} {s : Bool} {a0 a1 a2 a3 a4 a5 : Nat} (h : Rep z s a0 a1 a2 a3 a4 a5) (c : Nat) (hc1 : 1 ≤ c) (hc2 : c ≤ 9223372036854775807) (w : World) :
    Calls Try.prog 38 #[.agg #[.bool s, .int .u64 (a0 : Int), .int .u64 (a1 : Int), .int .u64 (a2 : Int), .int .u64 (a3 : Int), .int .u64 (a4 : Int), .int .u64 (a5 : Int)], .int .i64 (c : Int)] w (VPost (z / (c : Int)) w) := by
  have := divide_ s a0 a1 a2 a3 a4 a5 h.1 c hc1 hc2 w
  rw [← h.2] at this
  exact this
set_option maxRecDepth 100000 in
set_option maxHeartbeats 1000000 in
theorem ref_muldiv (a b : Int) (ha : I64 a) (hb : I64 b) (c : Nat) (hc1 : 1 ≤ c) (hc2 : c ≤ 9223372036854775807) (w : World) :
    Calls Try.prog 23 #[.int .i64 a, .int .i64 b, .int .i64 (c : Int)] w (FPost (a * b / (c : Int)) w) := by
  have A := hide (from_ a ha)
  have B := hide (from_ b hb)
  have T := hide (fun s r a0 a1 a2 a3 a4 a5 b0 b1 b2 b3 b4 b5 h1 h2 => times_ a b s r a0 a1 a2 a3 a4 a5 b0 b1 b2 b3 b4 b5 h1 h2 (abs96 ha) (abs96 hb))
  have D := hide (fun (s : Bool) (a0 a1 a2 a3 a4 a5 : Nat) (h : Rep (a * b) s a0 a1 a2 a3 a4 a5) => div_rep h c hc1 hc2)
  have hc0 : decide ((c : Int) < 1) = false := by simp; omega
  have hc3 : (1 : Int) ≤ c := by omega
  generalize hz : a * b / (c : Int) = Z at *
  clear ha hb hc1 hc2 hz
  go_enter Try.func23, Try.ntmps23
  go_wp2_with fail
  refine (A.out _).mono ?_
  rintro e w1 ⟨s, x0, x1, x2, x3, x4, x5, rfl, hx, b1⟩
  have HX := hide hx
  have BB1 := hide b1
  clear hx b1
  go_wp2_with fail
  refine (B.out _).mono ?_
  rintro e w2 ⟨r, y0, y1, y2, y3, y4, y5, rfl, hy, b2⟩
  have HY := hide hy
  have BB2 := hide (BB1.out.trans (b2.mono BB1.out.size))
  clear hy b2
  go_wp2_with fail
  refine (T.out s r x0 x1 x2 x3 x4 x5 y0 y1 y2 y3 y4 y5 HX.out HY.out _).mono ?_
  rintro e w3 ⟨q, z0, z1, z2, z3, z4, z5, rfl, hz, b3⟩
  have HZ := hide hz
  have BB3 := hide (BB2.out.trans (b3.mono BB2.out.size))
  clear hz b3
  go_wp2_with fail
  refine (D.out q z0 z1 z2 z3 z4 z5 HZ.out _).mono ?_
  rintro e w4 ⟨p, u0, u1, u2, u3, u4, u5, R, rfl, hu, b4⟩
  have HU := hide hu
  have BB4 := hide (BB3.out.trans (b4.mono BB3.out.size))
  have BB5 := hide (BB4.out.alloc BB4.out.size (.cells #[.bool p, .int .u64 (u0 : Int), .int .u64 (u1 : Int), .int .u64 (u2 : Int), .int .u64 (u3 : Int), .int .u64 (u4 : Int), .int .u64 (u5 : Int)] 46))
  clear hu b4
  go_wp2_with fail
  refine (fit Z p u0 u1 u2 u3 u4 u5 HU.out _).mono ?_
  rintro e w5 ⟨⟨h, rfl⟩ | ⟨h, rfl⟩, bz⟩
  · have H := hide h
    have bd := BB5.out.trans (bz.mono BB5.out.size)
    clear h bz
    go_wp2_with fail
    go_ret2
    exact ⟨.inl ⟨H.out, rfl⟩, bd⟩
  · have H := hide h
    have bd := BB5.out.trans (bz.mono BB5.out.size)
    clear h bz
    go_wp2_with fail
    go_ret2
    exact ⟨.inr ⟨H.out, rfl⟩, bd⟩
theorem ref_arg (a b c : Int) (h : c < 1) (w : World) : Calls Try.prog 23 #[.int .i64 a, .int .i64 b, .int .i64 c] w fun e w' => e = .returned (.tuple #[.int .i64 0, .int .i64 2]) ∧ Below w.heap.size w w' := by
  have hc0 : decide (c < 1) = true := by simp; omega
  go_enter Try.func23, Try.ntmps23
  go_wp2_with fail
  go_ret2
  exact ⟨rfl, Below.refl _ _⟩
/-- one answer that a function gives in every world -/
def One (g : Nat) (a b c V k : Int) : Prop := ∀ w, Calls Try.prog g #[.int .i64 a, .int .i64 b, .int .i64 c] w fun e w' => e = .returned (.tuple #[.int .i64 V, .int .i64 k]) ∧ Below w.heap.size w w'
theorem both (a b c : Int) (ha : I64 a) (hb : I64 b) (hc : I64 c) : ∃ V k, One 22 a b c V k ∧ One 23 a b c V k := by
  by_cases h : c < 1
  · exact ⟨0, 2, muldiv_arg a b c h, ref_arg a b c h⟩
  · refine ⟨gv (a * b / c), ge (a * b / c), g_div a b c ha hb hc (by omega), fun w => ?_⟩
    obtain ⟨n, rfl⟩ := Int.eq_ofNat_of_zero_le (show 0 ≤ c by omega)
    exact (ref_muldiv a b ha hb n (by omega) (by unfold I64 at hc; omega) w).mono fun e w' hh => hh.g
set_option maxRecDepth 100000 in
set_option maxHeartbeats 1000000 in
theorem walk (a b c : Int) (ha : I64 a) (hb : I64 b) (hc : I64 c) (w : World) : Calls Try.prog 5 #[.int .i64 a, .int .i64 b, .int .i64 c] w fun e w' => e = .returned (.bool true) ∧ Below w.heap.size w w' := by
  obtain ⟨V, k, H1, H2⟩ := both a b c ha hb hc
  have H1 := hide H1
  have H2 := hide H2
  clear ha hb hc
  go_enter Try.func5, Try.ntmps5
  go_wp2_with fail
  refine (H1.out _).mono ?_
  rintro e w1 ⟨rfl, b1⟩
  have BB1 := hide b1
  clear b1
  go_wp2_with fail
  refine (H2.out _).mono ?_
  rintro e w2 ⟨rfl, b2⟩
  have BB2 := hide (BB1.out.trans (b2.mono BB1.out.size))
  clear b2
  go_wp2_with fail
  refine (works _).mono ?_
  rintro e w3 ⟨rfl, b3⟩
  have bb4 := BB2.out.trans (b3.mono BB2.out.size)
  clear b3
  go_wp2_with fail
  go_ret
  exact ⟨rfl, bb4⟩
theorem own : ownKnob Try.prog.godebug = none := by kernel_rfl
theorem laidOut : laidOutB Try.prog = true := by kernel_rfl
set_option maxRecDepth 100000 in
theorem lifted (os : Os) (started : os.Started) (H : Type) (enc : TypeId × Value → H) :
    ReturnsInHanded {} Try.checked os 5 .any (Rows.checkedMulDivsSpec.pre6 enc Try.prog Try.f5 Rows.checkedMulDivsRow.domain false) (Rows.checkedMulDivsSpec.post enc Try.prog Try.f5 false true false false) := by
  refine returnsInHanded_of_change (C := Try.checked) own started (by kernel_rfl) Try.func5
    (ChangeSpec.witness6 (enc := enc) (C := Try.checked) false ⟨#[], #[.int .i64 0, .int .i64 0, .int .i64 0], []⟩ 8 (by kernel_rfl) (by kernel_rfl) (by kernel_rfl) (by kernel_rfl)) ?_
  intro W base args ds gs before hval0 hW hcnd _
  have hval : ∀ (j : Nat) t v, Try.f5.params[j]? = some t → args[j]? = some v → Value.okWide Try.prog W .any base t v := hval0
  have hW' := hW
  obtain ⟨p, q, hA0, hV, rfl, hfz, hnd⟩ := hW
  have hA : DataW.TrodAll enc Try.prog W 0 (fun _ => true) true Try.f5.params.toList args.toList ds p := hA0
  rw [Try.params5] at hA hval
  obtain ⟨v0, vs0, d0, ds0, p0, q0, hargs, rfl, rfl, h0, r0⟩ := trodAll_cons hA
  obtain ⟨v1, vs1, d1, ds1, p1, q1, rfl, rfl, rfl, h1, r1⟩ := trodAll_cons r0
  obtain ⟨v2, vs2, d2, ds2, p2, q2, rfl, rfl, rfl, h2, r2⟩ := trodAll_cons r1
  obtain ⟨rfl, rfl, rfl⟩ := trodAll_nil r2
  obtain rfl : args = #[v0, v1, v2] := by cases args; simp_all
  obtain ⟨rfl, rfl⟩ := trodVars_none hV
  have k0 := h0
  have lt0 : ∀ x ∈ p0, x.block < W.heap.size := by obtain ⟨m, hm⟩ := k0; exact DataW.trod_lt m _ _ _ hm
  have k1 := h1
  have lt1 : ∀ x ∈ p1, x.block < W.heap.size := by obtain ⟨m, hm⟩ := k1; exact DataW.trod_lt m _ _ _ hm
  have k2 := h2
  have lt2 : ∀ x ∈ p2, x.block < W.heap.size := by obtain ⟨m, hm⟩ := k2; exact DataW.trod_lt m _ _ _ hm
  obtain ⟨a0, rfl, _, _, w0⟩ := open_int Try.underlying2 (hval 0 2 v0 rfl rfl) h0
  obtain ⟨a1, rfl, _, _, w1⟩ := open_int Try.underlying2 (hval 1 2 v1 rfl rfl) h1
  obtain ⟨a2, rfl, _, _, w2⟩ := open_int Try.underlying2 (hval 2 2 v2 rfl rfl) h2
  clear hA0 hval0
  refine (walk a0 a1 a2 (wf_I64 w0) (wf_I64 w1) (wf_I64 w2) W).mono fun e W' ⟨he, bel⟩ => ?_
  subst he
  exact ⟨_, rfl, _, _, _, [], _, [], hW', trodAll_mk1 (shut_bool Try.underlying4 _), (trodAll_cons_mk (Below.trod laidOut (by kernel_rfl) (of_decide_eq_true (by kernel_rfl)) k0 bel lt0) (trodAll_cons_mk (Below.trod laidOut (by kernel_rfl) (of_decide_eq_true (by kernel_rfl)) k1 bel lt1) (trodAll_cons_mk (Below.trod laidOut (by kernel_rfl) (of_decide_eq_true (by kernel_rfl)) k2 bel lt2) trodAll_mk0))), rfl, bel.frame _, fun h => by cases h⟩
theorem holds : Rows.checkedMulDivsRow.holds Try.pinned (OpenSpec.ofChange Rows.checkedMulDivsSpec) :=
  OpenClaim.holds_of_wide 5 Try.f5 rfl rfl rfl rfl rfl rfl rfl ⟨rfl, rfl, rfl, rfl, rfl⟩ rfl rfl rfl rfl rfl (by kernel_rfl) Try.func5 (by kernel_rfl)
    (of_decide_eq_true (by kernel_rfl)) (by unfold Func.isWrapper; first | (rw [if_pos (by decide +kernel)]; kernel_rfl) | (rw [if_neg (by decide +kernel)]; exact ⟨rfl, rfl⟩))
    (fun os started H enc _ => lifted os started H enc)
theorem proved : Rows.CheckedMulDivsSaid := holds
end Go.Proofs.Ytomgdleoegaooaa.lawMulDivs
