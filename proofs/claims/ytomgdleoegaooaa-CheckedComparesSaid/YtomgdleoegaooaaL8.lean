/- CheckedCompares: for any two fractions the law answers true: the order of the code and of the specification agree. No condition. -/
import Derived.Test.YtomgdleoegaooaaFr
import Derived.Test.YtomgdleoegaooaaS8
set_option linter.unusedVariables false
set_option linter.unusedSimpArgs false
namespace Go.Proofs.Ytomgdleoegaooaa.lawCompares
open Go.ChangeShapes Go.WideShapes Go.ChangeAt Go.RowKit Go.Joins

/-- one answer that a function gives in every world -/
def One (g : Nat) (n d m f S k : Int) : Prop := ∀ w, Calls Try.prog g #[.agg #[.int .i64 n, .int .i64 d], .agg #[.int .i64 m, .int .i64 f]] w fun e w' => e = .returned (.tuple #[.int .i64 S, .int .i64 k]) ∧ Below w.heap.size w w'
theorem both (n d m f : Int) (hn : I64 n) (hd : I64 d) (hm : I64 m) (hf : I64 f) : ∃ S k, One 26 n d m f S k ∧ One 27 n d m f S k := by
  by_cases h : d < 1 ∨ f < 1
  · exact ⟨0, 2, comp_no n d m f h, rcomp_no n d m f h⟩
  · exact ⟨_, 0, comp_ok n d m f hn hd hm hf (by omega) (by omega), rcomp_ok n d m f hn hd hm hf (by omega) (by omega)⟩
set_option maxRecDepth 100000 in
set_option maxHeartbeats 1000000 in
theorem walk (n d m f : Int) (hn : I64 n) (hd : I64 d) (hm : I64 m) (hf : I64 f) (w : World) : Calls Try.prog 7 #[.agg #[.int .i64 n, .int .i64 d], .agg #[.int .i64 m, .int .i64 f]] w fun e w' => e = .returned (.bool true) ∧ Below w.heap.size w w' := by
  obtain ⟨S, k, H1, H2⟩ := both n d m f hn hd hm hf
  have H1 := hide H1
  have H2 := hide H2
  clear hn hd hm hf
  have bb0 := hide (((Below.refl w.heap.size w).alloc (Nat.le_refl _) (.cells #[.int .i64 n, .int .i64 d] 34)).alloc (by simp) (.cells #[.int .i64 m, .int .i64 f] 34))
  have a1 := hide ((At.new w (.int .i64 n) (.int .i64 d) 34).alloc #[.int .i64 m, .int .i64 f] 34)
  have a2 := hide (At.new (w.alloc (.cells #[.int .i64 n, .int .i64 d] 34)) (.int .i64 m) (.int .i64 f) 34)
  rw [show (w.alloc (.cells #[.int .i64 n, .int .i64 d] 34)).heap.size = w.heap.size + 1 by simp] at a2
  go_enter Try.func7, Try.ntmps7
  go_wp2_with fail
  refine (H1.out _).mono ?_
  rintro e w1 ⟨rfl, b1⟩
  have bb1 := hide (bb0.out.trans (b1.mono bb0.out.size))
  have a3 := a1.out.step b1
  have a4 := a2.out.step b1
  obtain ⟨g1, g2, g3⟩ := a3
  obtain ⟨g4, g5, g6⟩ := a4
  clear b1 a1 a2
  go_wp2_with fail
  refine (H2.out _).mono ?_
  rintro e w2 ⟨rfl, b2⟩
  have bb2 := hide (bb1.out.trans (b2.mono bb1.out.size))
  clear b2 g1 g2 g3 g4 g5 g6
  go_wp2_with fail
  refine (works _).mono ?_
  rintro e w3 ⟨rfl, b3⟩
  have bb4 := bb2.out.trans (b3.mono bb2.out.size)
  clear b3
  go_wp2_with fail
  go_ret
  exact ⟨rfl, bb4⟩
theorem own : ownKnob Try.prog.godebug = none := by kernel_rfl
theorem laidOut : laidOutB Try.prog = true := by kernel_rfl
theorem cellsFrac : Try.prog.cellsOf 34 = 2 := by kernel_rfl
set_option maxRecDepth 100000 in
theorem lifted (os : Os) (started : os.Started) (H : Type) (enc : TypeId × Value → H) :
    ReturnsInHanded {} Try.checked os 7 .any (Rows.checkedComparesSpec.pre6 enc Try.prog Try.f7 Rows.checkedComparesRow.domain false) (Rows.checkedComparesSpec.post enc Try.prog Try.f7 false true false false) := by
  refine returnsInHanded_of_change (C := Try.checked) own started (by kernel_rfl) Try.func7
    (ChangeSpec.witness6 (enc := enc) (C := Try.checked) false ⟨#[], #[.agg #[.int .i64 0, .int .i64 0], .agg #[.int .i64 0, .int .i64 0]], []⟩ 8 (by kernel_rfl) (by kernel_rfl) (by kernel_rfl) (by kernel_rfl)) ?_
  intro W base args ds gs before hval0 hW hcnd _
  have hval : ∀ (j : Nat) t v, Try.f7.params[j]? = some t → args[j]? = some v → Value.okWide Try.prog W .any base t v := hval0
  have hW' := hW
  obtain ⟨p, q, hA0, hV, rfl, hfz, hnd⟩ := hW
  have hA : DataW.TrodAll enc Try.prog W 0 (fun _ => true) true Try.f7.params.toList args.toList ds p := hA0
  rw [Try.params7] at hA hval
  obtain ⟨v0, vs0, d0, ds0, p0, q0, hargs, rfl, rfl, h0, r0⟩ := trodAll_cons hA
  obtain ⟨v1, vs1, d1, ds1, p1, q1, rfl, rfl, rfl, h1, r1⟩ := trodAll_cons r0
  obtain ⟨rfl, rfl, rfl⟩ := trodAll_nil r1
  obtain rfl : args = #[v0, v1] := by cases args; simp_all
  obtain ⟨rfl, rfl⟩ := trodVars_none hV
  have k0 := h0
  have lt0 : ∀ x ∈ p0, x.block < W.heap.size := by obtain ⟨m, hm⟩ := k0; exact DataW.trod_lt m _ _ _ hm
  have k1 := h1
  have lt1 : ∀ x ∈ p1, x.block < W.heap.size := by obtain ⟨m, hm⟩ := k1; exact DataW.trod_lt m _ _ _ hm
  obtain ⟨c0a, c0b, y0a, y0b, m0, rfl, _, _, hy0a, hy0b⟩ := open_agg2 Try.underlying34 (by kernel_rfl) cellsFrac (hval 0 34 v0 rfl rfl) h0
  obtain ⟨a0a, e0a, _, w0a⟩ := DataW.trod_int Try.underlying2 hy0a
  simp at e0a
  subst e0a
  obtain ⟨a0b, e0b, _, w0b⟩ := DataW.trod_int Try.underlying2 hy0b
  simp at e0b
  subst e0b
  obtain ⟨c1a, c1b, y1a, y1b, m1, rfl, _, _, hy1a, hy1b⟩ := open_agg2 Try.underlying34 (by kernel_rfl) cellsFrac (hval 1 34 v1 rfl rfl) h1
  obtain ⟨a1a, e1a, _, w1a⟩ := DataW.trod_int Try.underlying2 hy1a
  simp at e1a
  subst e1a
  obtain ⟨a1b, e1b, _, w1b⟩ := DataW.trod_int Try.underlying2 hy1b
  simp at e1b
  subst e1b
  clear hA0 hval0
  refine (walk a0a a0b a1a a1b (wf_I64 w0a) (wf_I64 w0b) (wf_I64 w1a) (wf_I64 w1b) W).mono fun e W' ⟨he, bel⟩ => ?_
  subst he
  exact ⟨_, rfl, _, _, _, [], _, [], hW', trodAll_mk1 (shut_bool Try.underlying4 _), (trodAll_cons_mk (Below.trod laidOut (by kernel_rfl) (of_decide_eq_true (by kernel_rfl)) k0 bel lt0) (trodAll_cons_mk (Below.trod laidOut (by kernel_rfl) (of_decide_eq_true (by kernel_rfl)) k1 bel lt1) trodAll_mk0)), rfl, bel.frame _, fun h => by cases h⟩
theorem holds : Rows.checkedComparesRow.holds Try.pinned (OpenSpec.ofChange Rows.checkedComparesSpec) :=
  OpenClaim.holds_of_wide 7 Try.f7 rfl rfl rfl rfl rfl rfl rfl ⟨rfl, rfl, rfl, rfl, rfl⟩ rfl rfl rfl rfl rfl (by kernel_rfl) Try.func7 (by kernel_rfl)
    (of_decide_eq_true (by kernel_rfl)) (by unfold Func.isWrapper; first | (rw [if_pos (by decide +kernel)]; kernel_rfl) | (rw [if_neg (by decide +kernel)]; exact ⟨rfl, rfl⟩))
    (fun os started H enc _ => lifted os started H enc)
theorem proved : Rows.CheckedComparesSaid := holds
end Go.Proofs.Ytomgdleoegaooaa.lawCompares
