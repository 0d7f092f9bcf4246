/- CheckedReduces: for any two numbers the law answers true: the lowest terms of the code and of the specification agree. No condition. -/
import Derived.Test.YtomgdleoegaooaaFr
import Derived.Test.YtomgdleoegaooaaS6
set_option linter.unusedVariables false
set_option linter.unusedSimpArgs false
namespace Go.Proofs.Ytomgdleoegaooaa.lawReduces
open Go.ChangeShapes Go.WideShapes Go.ChangeAt Go.RowKit Go.Joins

set_option maxRecDepth 100000 in
theorem ref_arg (n : Int) (w : World) : Calls Try.prog 25 #[.int .i64 n, .int .i64 0] w (DPost n 0 w) := by
  have e0 : ((0 : Int) == 0) = true := rfl
  go_enter Try.func25, Try.ntmps25
  go_wp2_with fail
  refine bodyPost_ret (v := .tuple #[.agg #[.int .i64 0, .int .i64 0], .int .i64 2]) (by simp [results, Try.results25, go_sem]) rfl ⟨.inl ⟨rfl, rfl⟩, ?_⟩
  first | exact (((Below.refl w.heap.size w).alloc (Nat.le_refl _) _).setCell (Nat.le_refl _) _).setCell (Nat.le_refl _) _ | exact ((Below.refl w.heap.size w).alloc (Nat.le_refl _) _)
/-- one answer that a function gives in every world -/
def One (f : Nat) (n d N D k : Int) : Prop := ∀ w, Calls Try.prog f #[.int .i64 n, .int .i64 d] w fun e w' => e = .returned (.tuple #[.agg #[.int .i64 N, .int .i64 D], .int .i64 k]) ∧ Below w.heap.size w w'
theorem one_of (n d : Int) : ∃ N D k, ∀ f, (∀ w, Calls Try.prog f #[.int .i64 n, .int .i64 d] w (DPost n d w)) → One f n d N D k := by
  by_cases h1 : d = 0
  · refine ⟨0, 0, 2, fun f h w => (h w).mono fun e w' hh => ?_⟩
    obtain ⟨(⟨h2, he⟩ | ⟨h2, h3, h4, he⟩ | ⟨h2, h3, he⟩), b⟩ := hh
    · exact ⟨he, b⟩
    · exact absurd h1 h2
    · exact absurd h1 h2
  · by_cases g : I64 (rN n d) ∧ I64 (rD n d)
    · refine ⟨rN n d, rD n d, 0, fun f h w => (h w).mono fun e w' hh => ?_⟩
      obtain ⟨(⟨h2, he⟩ | ⟨h2, h3, h4, he⟩ | ⟨h2, h3, he⟩), b⟩ := hh
      · exact absurd h2 h1
      · exact ⟨he, b⟩
      · exact absurd g h3
    · refine ⟨0, 0, 7, fun f h w => (h w).mono fun e w' hh => ?_⟩
      obtain ⟨(⟨h2, he⟩ | ⟨h2, h3, h4, he⟩ | ⟨h2, h3, he⟩), b⟩ := hh
      · exact absurd h2 h1
      · exact absurd ⟨h3, h4⟩ g
      · exact ⟨he, b⟩
theorem both (n d : Int) (hn : I64 n) (hd : I64 d) : ∃ N D k, One 24 n d N D k ∧ One 25 n d N D k := by
  obtain ⟨N, D, k, H⟩ := one_of n d
  refine ⟨N, D, k, H 24 fun w => d_red n d hn hd w, H 25 fun w => ?_⟩
  by_cases h : d = 0
  · subst h; exact ref_arg n w
  · exact ref_reduce n d hn hd h w
set_option maxRecDepth 100000 in
set_option maxHeartbeats 1000000 in
theorem walk (n d : Int) (hn : I64 n) (hd : I64 d) (w : World) : Calls Try.prog 6 #[.int .i64 n, .int .i64 d] w fun e w' => e = .returned (.bool true) ∧ Below w.heap.size w w' := by
  obtain ⟨N, D, k, H1, H2⟩ := both n d hn hd
  have H1 := hide H1
  have H2 := hide H2
  clear hn hd
  go_enter Try.func6, Try.ntmps6
  go_wp2_with fail
  refine (H1.out _).mono ?_
  rintro e w1 ⟨rfl, b1⟩
  have bb1 := hide (b1.alloc b1.size (.cells #[.int .i64 N, .int .i64 D] 34))
  have a0 := hide (At.new w1 (.int .i64 N) (.int .i64 D) 34)
  clear b1
  go_wp2_with fail
  refine (H2.out _).mono ?_
  rintro e w2 ⟨rfl, b2⟩
  have a1 := hide ((a0.out.step b2).alloc #[.int .i64 N, .int .i64 D] 34)
  have a2 := hide (At.new w2 (.int .i64 N) (.int .i64 D) 34)
  have bb2 := hide (bb1.out.trans (b2.mono bb1.out.size))
  have bb3 := hide (bb2.out.alloc bb2.out.size (.cells #[.int .i64 N, .int .i64 D] 34))
  have a3 := a0.out.step b2
  obtain ⟨g1, g2, g3⟩ := a3
  clear b2
  go_wp2_with fail
  refine (works _).mono ?_
  rintro e w3 ⟨rfl, b3⟩
  have bb4 := bb3.out.trans (b3.mono bb3.out.size)
  clear b3
  go_wp2_with fail
  go_ret
  exact ⟨rfl, bb4⟩
theorem own : ownKnob Try.prog.godebug = none := by kernel_rfl
theorem laidOut : laidOutB Try.prog = true := by kernel_rfl
set_option maxRecDepth 100000 in
theorem lifted (os : Os) (started : os.Started) (H : Type) (enc : TypeId × Value → H) :
    ReturnsInHanded {} Try.checked os 6 .any (Rows.checkedReducesSpec.pre6 enc Try.prog Try.f6 Rows.checkedReducesRow.domain false) (Rows.checkedReducesSpec.post enc Try.prog Try.f6 false true false false) := by
  refine returnsInHanded_of_change (C := Try.checked) own started (by kernel_rfl) Try.func6
    (ChangeSpec.witness6 (enc := enc) (C := Try.checked) false ⟨#[], #[.int .i64 0, .int .i64 0], []⟩ 8 (by kernel_rfl) (by kernel_rfl) (by kernel_rfl) (by kernel_rfl)) ?_
  intro W base args ds gs before hval0 hW hcnd _
  have hval : ∀ (j : Nat) t v, Try.f6.params[j]? = some t → args[j]? = some v → Value.okWide Try.prog W .any base t v := hval0
  have hW' := hW
  obtain ⟨p, q, hA0, hV, rfl, hfz, hnd⟩ := hW
  have hA : DataW.TrodAll enc Try.prog W 0 (fun _ => true) true Try.f6.params.toList args.toList ds p := hA0
  rw [Try.params6] at hA hval
  obtain ⟨v0, vs0, d0, ds0, p0, q0, hargs, rfl, rfl, h0, r0⟩ := trodAll_cons hA
  obtain ⟨v1, vs1, d1, ds1, p1, q1, rfl, rfl, rfl, h1, r1⟩ := trodAll_cons r0
  obtain ⟨rfl, rfl, rfl⟩ := trodAll_nil r1
  obtain rfl : args = #[v0, v1] := by cases args; simp_all
  obtain ⟨rfl, rfl⟩ := trodVars_none hV
  have k0 := h0
  have lt0 : ∀ x ∈ p0, x.block < W.heap.size := by obtain ⟨m, hm⟩ := k0; exact DataW.trod_lt m _ _ _ hm
  have k1 := h1
  have lt1 : ∀ x ∈ p1, x.block < W.heap.size := by obtain ⟨m, hm⟩ := k1; exact DataW.trod_lt m _ _ _ hm
  obtain ⟨a0, rfl, _, _, w0⟩ := open_int Try.underlying2 (hval 0 2 v0 rfl rfl) h0
  obtain ⟨a1, rfl, _, _, w1⟩ := open_int Try.underlying2 (hval 1 2 v1 rfl rfl) h1
  clear hA0 hval0
  refine (walk a0 a1 (wf_I64 w0) (wf_I64 w1) W).mono fun e W' ⟨he, bel⟩ => ?_
  subst he
  exact ⟨_, rfl, _, _, _, [], _, [], hW', trodAll_mk1 (shut_bool Try.underlying4 _), (trodAll_cons_mk (Below.trod laidOut (by kernel_rfl) (of_decide_eq_true (by kernel_rfl)) k0 bel lt0) (trodAll_cons_mk (Below.trod laidOut (by kernel_rfl) (of_decide_eq_true (by kernel_rfl)) k1 bel lt1) trodAll_mk0)), rfl, bel.frame _, fun h => by cases h⟩
theorem holds : Rows.checkedReducesRow.holds Try.pinned (OpenSpec.ofChange Rows.checkedReducesSpec) :=
  OpenClaim.holds_of_wide 6 Try.f6 rfl rfl rfl rfl rfl rfl rfl ⟨rfl, rfl, rfl, rfl, rfl⟩ rfl rfl rfl rfl rfl (by kernel_rfl) Try.func6 (by kernel_rfl)
    (of_decide_eq_true (by kernel_rfl)) (by unfold Func.isWrapper; first | (rw [if_pos (by decide +kernel)]; kernel_rfl) | (rw [if_neg (by decide +kernel)]; exact ⟨rfl, rfl⟩))
    (fun os started H enc _ => lifted os started H enc)
theorem proved : Rows.CheckedReducesSaid := holds
end Go.Proofs.Ytomgdleoegaooaa.lawReduces
