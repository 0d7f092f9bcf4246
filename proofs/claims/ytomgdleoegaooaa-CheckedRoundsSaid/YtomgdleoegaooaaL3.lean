/- CheckedRounds: for every a, b and c the law answers true: what a quotient leaves is from 0 to c - 1, and a number times c divided by c is the number. No condition. -/
import Derived.Test.YtomgdleoegaooaaFr
set_option linter.unusedVariables false
set_option linter.unusedSimpArgs false
namespace Go.Proofs.Ytomgdleoegaooaa.lawRounds
open Go.ChangeShapes Go.WideShapes Go.ChangeAt Go.RowKit

theorem i64_dec (n : Int) : I64 n ∨ ¬ I64 n := Classical.em _
/-- the value and the error of a result that may not fit -/
noncomputable def fv (n : Int) : Int := @ite _ (I64 n) (Classical.propDecidable _) n 0
noncomputable def fe (n : Int) : Int := @ite _ (I64 n) (Classical.propDecidable _) 0 7
theorem fv_ok {n : Int} (h : I64 n) : fv n = n := if_pos h
theorem fe_ok {n : Int} (h : I64 n) : fe n = 0 := if_pos h
theorem fv_no {n : Int} (h : ¬ I64 n) : fv n = 0 := if_neg h
theorem fe_no {n : Int} (h : ¬ I64 n) : fe n = 7 := if_neg h
theorem fv_i64 (n : Int) : I64 (fv n) := by
  rcases i64_dec n with h | h
  · rw [fv_ok h]; exact h
  · rw [fv_no h]; unfold I64; omega

theorem mul_any (a b : Int) (ha : I64 a) (hb : I64 b) (w : World) :
    Calls Try.prog 17 #[.int .i64 a, .int .i64 b] w fun e w' => e = .returned (.tuple #[.int .i64 (fv (a * b)), .int .i64 (fe (a * b))]) ∧ Below w.heap.size w w' := by
  rcases i64_dec (a * b) with h | h
  · rw [fv_ok h, fe_ok h]; exact mul_ok a b ha hb h w
  · rw [fv_no h, fe_no h]; exact mul_no a b ha hb h w
theorem div_any (a b c : Int) (ha : I64 a) (hb : I64 b) (hc : I64 c) (h1 : 1 ≤ c) (w : World) :
    Calls Try.prog 22 #[.int .i64 a, .int .i64 b, .int .i64 c] w fun e w' => e = .returned (.tuple #[.int .i64 (fv (a * b / c)), .int .i64 (fe (a * b / c))]) ∧ Below w.heap.size w w' := by
  rcases i64_dec (a * b / c) with h | h
  · rw [fv_ok h, fe_ok h]; exact muldiv_ok a b c ha hb hc h1 h w
  · rw [fv_no h, fe_no h]; exact muldiv_no a b c ha hb hc h1 h w
theorem same (a c : Int) (ha : I64 a) (hc : I64 c) (h1 : 1 ≤ c) (w : World) :
    Calls Try.prog 22 #[.int .i64 a, .int .i64 c, .int .i64 c] w fun e w' => e = .returned (.tuple #[.int .i64 a, .int .i64 0]) ∧ Below w.heap.size w w' := by
  have e : a * c / c = a := Int.mul_ediv_cancel a (by omega)
  have := muldiv_ok a c c ha hc hc h1 (by rw [e]; exact ha) w
  rw [e] at this
  exact this
/-- what is left -/
theorem left (a b c : Int) (hc : I64 c) (h1 : 1 ≤ c) (hq : I64 (a * b / c)) (hp : I64 (a * b)) (hm : I64 (a * b / c * c)) (w : World) :
    ∃ r : Int, 0 ≤ r ∧ r < c ∧ Calls Try.prog 15 #[.int .i64 (a * b), .int .i64 (a * b / c * c)] w fun e w' => e = .returned (.tuple #[.int .i64 r, .int .i64 0]) ∧ w = w' := by
  have e : a * b - a * b / c * c = a * b % c := by
    have := Int.emod_add_mul_ediv (a * b) c
    rw [Int.mul_comm c] at this
    omega
  have r0 := Int.emod_nonneg (a * b) (show c ≠ 0 by omega)
  have r1 := Int.emod_lt_of_pos (a * b) (show 0 < c by omega)
  refine ⟨a * b % c, r0, r1, ?_⟩
  have := sub_ok (a * b) (a * b / c * c) w hp hm (by rw [e]; unfold I64 at *; omega)
  rw [e] at this
  exact this

set_option maxRecDepth 100000 in
set_option maxHeartbeats 1000000 in
theorem walk (a b c : Int) (ha : I64 a) (hb : I64 b) (hc : I64 c) (w : World) :
    Calls Try.prog 10 #[.int .i64 a, .int .i64 b, .int .i64 c] w fun e w' => e = .returned (.bool true) ∧ Below w.heap.size w w' := by
  by_cases h1 : c < 1
  · go_enter Try.func10, Try.ntmps10
    go_wp2_with fail
    refine (works _).mono ?_
    rintro e w1 ⟨rfl, b1⟩
    go_wp2_with fail
    go_ret
    exact ⟨rfl, b1⟩
  · have C1 := hide (same a c ha hc (by omega))
    have C2 := hide (div_any a b c ha hb hc (by omega))
    have C3 := hide (mul_any a b ha hb)
    have C4 := hide (mul_any (fv (a * b / c)) c (fv_i64 _) hc)
    by_cases hall : I64 (a * b / c) ∧ I64 (a * b) ∧ I64 (a * b / c * c)
    · obtain ⟨x1, x2, x3⟩ := hall
      have L := hide (left a b c hc (by omega) x1 x2 x3)
      rw [fv_ok x1] at C2 C4
      rw [fe_ok x1] at C2
      rw [fv_ok x2, fe_ok x2] at C3
      rw [fv_ok x3, fe_ok x3] at C4
      generalize a * b / c * c = m at *
      generalize a * b / c = q at *
      generalize a * b = p at *
      clear ha hb x1 x2 x3
      go_enter Try.func10, Try.ntmps10
      go_wp2_with fail
      refine (C1.out _).mono ?_
      rintro e w1 ⟨rfl, b1⟩
      go_wp2_with fail
      refine (C2.out _).mono ?_
      rintro e w2 ⟨rfl, b2⟩
      have bb2 := b1.trans (b2.mono b1.size)
      clear b2
      go_wp2_with fail
      refine (C3.out _).mono ?_
      rintro e w3 ⟨rfl, b3⟩
      have bb3 := bb2.trans (b3.mono bb2.size)
      clear b3
      go_wp2_with fail
      refine (C4.out _).mono ?_
      rintro e w4 ⟨rfl, b4⟩
      have bb4 := bb3.trans (b4.mono bb3.size)
      clear b4
      obtain ⟨r, r0, r1, hr⟩ := L.out w4
      have R := hide hr
      clear hr
      go_wp2_with fail
      refine R.out.mono ?_
      rintro e w' ⟨rfl, rfl⟩
      go_wp2_with fail
      refine (works _).mono ?_
      rintro e w5 ⟨rfl, b5⟩
      go_wp2_with fail
      go_ret
      exact ⟨rfl, bb4.trans (b5.mono bb4.size)⟩
    · have T : Hid (fe (a * b / c) = 7 ∨ (fe (a * b / c) = 0 ∧ fe (a * b) = 7) ∨ (fe (a * b / c) = 0 ∧ fe (a * b) = 0 ∧ fe (fv (a * b / c) * c) = 7)) := by
        rcases i64_dec (a * b / c) with y1 | y1
        · rcases i64_dec (a * b) with y2 | y2
          · rcases i64_dec (a * b / c * c) with y3 | y3
            · exact absurd ⟨y1, y2, y3⟩ hall
            · exact .inr (.inr ⟨fe_ok y1, fe_ok y2, by rw [fv_ok y1]; exact fe_no y3⟩)
          · exact .inr (.inl ⟨fe_ok y1, fe_no y2⟩)
        · exact .inl (fe_no y1)
      generalize fv (fv (a * b / c) * c) = m at *
      generalize fe (fv (a * b / c) * c) = me at *
      generalize fv (a * b / c) = q at *
      generalize fe (a * b / c) = qe at *
      generalize fv (a * b) = p at *
      generalize fe (a * b) = pe at *
      clear ha hb hall
      rcases T.out with h | ⟨h, h'⟩ | ⟨h, h', h''⟩
      · subst h
        clear T
        go_enter Try.func10, Try.ntmps10
        go_wp2_with fail
        refine (C1.out _).mono ?_
        rintro e w1 ⟨rfl, b1⟩
        go_wp2_with fail
        refine (C2.out _).mono ?_
        rintro e w2 ⟨rfl, b2⟩
        have bb2 := b1.trans (b2.mono b1.size)
        clear b2
        go_wp2_with fail
        refine (C3.out _).mono ?_
        rintro e w3 ⟨rfl, b3⟩
        have bb3 := bb2.trans (b3.mono bb2.size)
        clear b3
        go_wp2_with fail
        refine (C4.out _).mono ?_
        rintro e w4 ⟨rfl, b4⟩
        have bb4 := bb3.trans (b4.mono bb3.size)
        clear b4
        go_wp2_with fail
        refine (works _).mono ?_
        rintro e w5 ⟨rfl, b5⟩
        go_wp2_with fail
        go_ret
        exact ⟨rfl, bb4.trans (b5.mono bb4.size)⟩
      · subst h h'
        clear T
        go_enter Try.func10, Try.ntmps10
        go_wp2_with fail
        refine (C1.out _).mono ?_
        rintro e w1 ⟨rfl, b1⟩
        go_wp2_with fail
        refine (C2.out _).mono ?_
        rintro e w2 ⟨rfl, b2⟩
        have bb2 := b1.trans (b2.mono b1.size)
        clear b2
        go_wp2_with fail
        refine (C3.out _).mono ?_
        rintro e w3 ⟨rfl, b3⟩
        have bb3 := bb2.trans (b3.mono bb2.size)
        clear b3
        go_wp2_with fail
        refine (C4.out _).mono ?_
        rintro e w4 ⟨rfl, b4⟩
        have bb4 := bb3.trans (b4.mono bb3.size)
        clear b4
        go_wp2_with fail
        refine (works _).mono ?_
        rintro e w5 ⟨rfl, b5⟩
        go_wp2_with fail
        go_ret
        exact ⟨rfl, bb4.trans (b5.mono bb4.size)⟩
      · subst h h' h''
        clear T
        go_enter Try.func10, Try.ntmps10
        go_wp2_with fail
        refine (C1.out _).mono ?_
        rintro e w1 ⟨rfl, b1⟩
        go_wp2_with fail
        refine (C2.out _).mono ?_
        rintro e w2 ⟨rfl, b2⟩
        have bb2 := b1.trans (b2.mono b1.size)
        clear b2
        go_wp2_with fail
        refine (C3.out _).mono ?_
        rintro e w3 ⟨rfl, b3⟩
        have bb3 := bb2.trans (b3.mono bb2.size)
        clear b3
        go_wp2_with fail
        refine (C4.out _).mono ?_
        rintro e w4 ⟨rfl, b4⟩
        have bb4 := bb3.trans (b4.mono bb3.size)
        clear b4
        go_wp2_with fail
        refine (works _).mono ?_
        rintro e w5 ⟨rfl, b5⟩
        go_wp2_with fail
        go_ret
        exact ⟨rfl, bb4.trans (b5.mono bb4.size)⟩

theorem own : ownKnob Try.prog.godebug = none := by kernel_rfl
theorem laidOut : laidOutB Try.prog = true := by kernel_rfl
set_option maxRecDepth 100000 in
theorem lifted (os : Os) (started : os.Started) (H : Type) (enc : TypeId × Value → H) :
    ReturnsInHanded {} Try.checked os 10 .any (Rows.checkedRoundsSpec.pre6 enc Try.prog Try.f10 Rows.checkedRoundsRow.domain false) (Rows.checkedRoundsSpec.post enc Try.prog Try.f10 false true false false) := by
  refine returnsInHanded_of_change (C := Try.checked) own started (by kernel_rfl) Try.func10
    (ChangeSpec.witness6 (enc := enc) (C := Try.checked) false ⟨#[], #[.int .i64 0, .int .i64 0, .int .i64 0], []⟩ 8 (by kernel_rfl) (by kernel_rfl) (by kernel_rfl) (by kernel_rfl)) ?_
  intro W base args ds gs before hval0 hW hcnd _
  have hval : ∀ (j : Nat) t v, Try.f10.params[j]? = some t → args[j]? = some v → Value.okWide Try.prog W .any base t v := hval0
  have hW' := hW
  obtain ⟨p, q, hA0, hV, rfl, hfz, hnd⟩ := hW
  have hA : DataW.TrodAll enc Try.prog W 0 (fun _ => true) true Try.f10.params.toList args.toList ds p := hA0
  rw [Try.params10] at hA hval
  obtain ⟨v0, vs0, d0, ds0, p0, q0, hargs, rfl, rfl, h0, r0⟩ := trodAll_cons hA
  obtain ⟨v1, vs1, d1, ds1, p1, q1, rfl, rfl, rfl, h1, r1⟩ := trodAll_cons r0
  obtain ⟨v2, vs2, d2, ds2, p2, q2, rfl, rfl, rfl, h2, r2⟩ := trodAll_cons r1
  obtain ⟨rfl, rfl, rfl⟩ := trodAll_nil r2
  obtain rfl : args = #[v0, v1, v2] := by cases args; simp_all
  obtain ⟨rfl, rfl⟩ := trodVars_none hV
  have k0 := h0
  have lt0 : ∀ x ∈ p0, x.block < W.heap.size := by obtain ⟨m, hm⟩ := k0; exact DataW.trod_lt m _ _ _ hm
  have k1 := h1
  have lt1 : ∀ x ∈ p1, x.block < W.heap.size := by obtain ⟨m, hm⟩ := k1; exact DataW.trod_lt m _ _ _ hm
  have k2 := h2
  have lt2 : ∀ x ∈ p2, x.block < W.heap.size := by obtain ⟨m, hm⟩ := k2; exact DataW.trod_lt m _ _ _ hm
  obtain ⟨a0, rfl, _, _, w0⟩ := open_int Try.underlying2 (hval 0 2 v0 rfl rfl) h0
  obtain ⟨a1, rfl, _, _, w1⟩ := open_int Try.underlying2 (hval 1 2 v1 rfl rfl) h1
  obtain ⟨a2, rfl, _, _, w2⟩ := open_int Try.underlying2 (hval 2 2 v2 rfl rfl) h2
  clear hA0 hval0
  refine (walk a0 a1 a2 (wf_I64 w0) (wf_I64 w1) (wf_I64 w2) W).mono fun e W' ⟨he, bel⟩ => ?_
  subst he
  exact ⟨_, rfl, _, _, _, [], _, [], hW', trodAll_mk1 (shut_bool Try.underlying4 _), (trodAll_cons_mk (Below.trod laidOut (by kernel_rfl) (of_decide_eq_true (by kernel_rfl)) k0 bel lt0) (trodAll_cons_mk (Below.trod laidOut (by kernel_rfl) (of_decide_eq_true (by kernel_rfl)) k1 bel lt1) (trodAll_cons_mk (Below.trod laidOut (by kernel_rfl) (of_decide_eq_true (by kernel_rfl)) k2 bel lt2) trodAll_mk0))), rfl, bel.frame _, fun h => by cases h⟩
theorem holds : Rows.checkedRoundsRow.holds Try.pinned (OpenSpec.ofChange Rows.checkedRoundsSpec) :=
  OpenClaim.holds_of_wide 10 Try.f10 rfl rfl rfl rfl rfl rfl rfl ⟨rfl, rfl, rfl, rfl, rfl⟩ rfl rfl rfl rfl rfl (by kernel_rfl) Try.func10 (by kernel_rfl)
    (of_decide_eq_true (by kernel_rfl)) (by unfold Func.isWrapper; first | (rw [if_pos (by decide +kernel)]; kernel_rfl) | (rw [if_neg (by decide +kernel)]; exact ⟨rfl, rfl⟩))
    (fun os started H enc _ => lifted os started H enc)
theorem proved : Rows.CheckedRoundsSaid := holds
end Go.Proofs.Ytomgdleoegaooaa.lawRounds
