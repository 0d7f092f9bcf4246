/- ArenaNews: the law answers true at every argument: a new arena has fresh slots alone, or its size is refused, as the document says. No condition. -/
import Derived.Test.YtflblojmjdlhiaaRN
import Derived.Test.YtflblojmjdlhiaaOp
import Derived.Test.YtflblojmjdlhiaaRows
import Derived.Deep.CutRange
set_option linter.unusedVariables false
set_option linter.unusedSimpArgs false
namespace Go.Proofs.Ytflblojmjdlhiaa
open Go.RowKit
theorem same_nil (w : World) : Calls Try.prog 30 #[.slice none 0 0, .slice none 0 0] w fun e w' => e = .returned (.bool true) ∧ Kp [] w w' :=
  same_t w [] 0 0 none none 0 0 (World.ownsRow_nil _ _ _ _) (World.ownsRow_nil _ _ _ _) (by simp)
theorem list_nil (w : World) : Calls Try.prog 27 #[.pointer none] w fun e w' => e = .returned (.slice none 0 0) ∧ w = w' := by
  have ht := valid_nil w
  go_enter Try.func27, Try.ntmps27
  go_wp2_with (go_at_call 37; refine ht.mono ?_; rintro e w' ⟨rfl, rfl⟩)
  go_ret
  exact ⟨rfl, rfl⟩
set_option maxRecDepth 100000 in
set_option maxHeartbeats 4000000 in
theorem agree_nil (i : Int) (w : World) : Calls Try.prog 14 #[.pointer none, .pointer none, .int .i64 i] w fun e w' => e = .returned (.bool true) ∧ Kp [] w w' := by
  go_enter Try.func14, Try.ntmps14
  go_wp2_with (first | (go_at_call 22; refine (next_f _ _ (.inl rfl)).mono ?_; rintro e w' ⟨rfl, rfl⟩) | (go_at_call 31; refine (rnext_nil _).mono ?_; rintro e w' ⟨rfl, rfl⟩) | (go_at_call 23; refine (used_f _ _ _ (.inl rfl)).mono ?_; rintro e w' ⟨rfl, rfl⟩) | (go_at_call 32; refine (rused_nil _ _).mono ?_; rintro e w' ⟨rfl, rfl⟩) | (go_at_call 24; refine (times_f _ _ _ (.inl rfl)).mono ?_; rintro e w' ⟨rfl, rfl⟩) | (go_at_call 33; refine (rtimes_nil _ _).mono ?_; rintro e w' ⟨rfl, rfl⟩) | (go_at_call 25; refine (len_f _ _ (.inl rfl)).mono ?_; rintro e w' ⟨rfl, rfl⟩) | (go_at_call 34; refine (rlen_nil _).mono ?_; rintro e w' ⟨rfl, rfl⟩) | (go_at_call 26; refine (cap_f _ _ (.inl rfl)).mono ?_; rintro e w' ⟨rfl, rfl⟩) | (go_at_call 35; refine (rcap_nil _).mono ?_; rintro e w' ⟨rfl, rfl⟩) | (go_at_call 27; refine (list_nil _).mono ?_; rintro e w' ⟨rfl, rfl⟩) | (go_at_call 36; refine (rlist_nil _).mono ?_; rintro e w' ⟨rfl, rfl⟩) | (go_at_call 30; refine (same_nil _).mono ?_; rintro e w' ⟨rfl, k6⟩; have K6 := hide k6; clear k6))
  go_ret
  exact ⟨by simp, K6.out⟩
theorem both_new (n : Nat) (h : n ≤ 65536) (w : World) :
    Calls Try.prog 12 #[.int .i64 (n : Int)] w fun e w1 => ∃ b, e = .returned (.tuple #[.pointer (some ⟨b, 0, none⟩), .int .i64 0]) ∧
      Calls Try.prog 13 #[.int .i64 (n : Int)] w1 fun e w2 => ∃ r, e = .returned (.tuple #[.pointer (some ⟨r, 0, none⟩), .int .i64 0]) ∧ Pr w w2 b r ⟨n, [], []⟩ := by
  refine (new_at (B := w.heap.size) n h w (Nat.le_refl _)).mono ?_
  rintro e w1 ⟨rfl, h1, k1⟩
  refine ⟨_, rfl, (rnew_ok n h w1).mono ?_⟩
  rintro e w2 ⟨r, own, rfl, h2, k2⟩
  have s1 : w.heap.size ≤ w1.heap.size := k1.size
  refine ⟨r, rfl, ⟨_, own, h1.keep k2 (by simp), ?_, (k1.trans k2 (by simp)).below (by simp) (Nat.le_refl _), fun x hx hy => ?_, fun i hi => by simp at hi⟩⟩
  · obtain ⟨vI, vC, vR, M, rfl⟩ := h2
    exact ⟨vI, vC, vR, ⟨M.blk, row_mono M.I s1, row_mono M.C s1, row_mono M.R s1, by have := M.ge; omega, M.nd⟩, rfl⟩
  · have := (h1.lt x hx).2
    have := (h2.lt x hy).1
    omega
namespace lawNews
open Go.ChangeShapes Go.WideShapes Go.ChangeAt Go.RowKit Go.Joins
set_option maxRecDepth 100000 in
set_option maxHeartbeats 8000000 in
theorem walk (a0 : Int) (a1 : Int) (w : World) (b0 : -9223372036854775808 ≤ a0 ∧ a0 ≤ 9223372036854775807) (b1 : -9223372036854775808 ≤ a1 ∧ a1 ≤ 9223372036854775807) : Calls Try.prog 3 #[.int .i64 a0, .int .i64 a1] w fun e w' => e = .returned (.bool true) ∧ Below w.heap.size w w' := by
  have hp := up22
  have hp2 := up26
  by_cases hr : a0 < 0 ∨ 65536 < a0
  · have N1 := hide (new_no a0 hr)
    have N2 := hide (rnew_no a0 hr)
    clear hr b0 b1
    go_enter Try.func3, Try.ntmps3
    go_wp2_with (first | (go_at_call 12; refine (N1.out _).mono ?_; rintro e w' ⟨rfl, rfl⟩) | (go_at_call 13; refine (N2.out _).mono ?_; rintro e w' ⟨rfl, rfl⟩) | (go_at_call 14; refine (agree_nil _ _).mono ?_; rintro e w1 ⟨rfl, k1⟩; have K1 := hide k1; clear k1) | (go_at_call 15; refine (works _).mono ?_; rintro e w5 ⟨rfl, b5⟩; have H5 := hide b5; clear b5))
    go_ret
    exact ⟨by simp, (K1.out.below (by simp) (Nat.le_refl _)).trans (H5.out.mono K1.out.size)⟩
  · obtain ⟨n, rfl⟩ : ∃ n : Nat, a0 = (n : Int) := ⟨a0.toNat, by omega⟩
    have BN := hide (both_new n (by omega))
    clear hr b0 b1
    go_enter Try.func3, Try.ntmps3
    go_wp2_with (first | (go_at_call 12; refine (BN.out _).mono ?_; rintro e w1 ⟨b, rfl, h1⟩; have H1 := hide h1; clear h1) | (go_at_call 13; refine H1.out.mono ?_; rintro e w2 ⟨r, rfl, h2⟩; have H2 := hide h2; clear h2) | (go_at_call 14; refine (agree_t H2.out _).mono ?_; rintro e w3 ⟨rfl, k3⟩; have K3 := hide (H2.out.keep k3).below; clear k3) | (go_at_call 15; refine (works _).mono ?_; rintro e w5 ⟨rfl, b5⟩; have H5 := hide b5; clear b5))
    go_ret
    exact ⟨by simp, K3.out.trans (H5.out.mono K3.out.size)⟩
theorem own : ownKnob Try.prog.godebug = none := by kernel_rfl
theorem laidOut : laidOutB Try.prog = true := by kernel_rfl
set_option maxRecDepth 100000 in
theorem lifted (os : Os) (started : os.Started) (H : Type) (enc : TypeId × Value → H) :
    ReturnsInHanded {} Try.checked os 3 .any (Rows.arenaNewsSpec.pre6 enc Try.prog Try.f3 Rows.arenaNewsRow.domain false) (Rows.arenaNewsSpec.post enc Try.prog Try.f3 false true false false) := by
  refine returnsInHanded_of_change (C := Try.checked) own started (by kernel_rfl) Try.func3
    (ChangeSpec.witness6 (enc := enc) (C := Try.checked) false ⟨#[], #[.int .i64 0, .int .i64 0], []⟩ 8 (by kernel_rfl) (by kernel_rfl) (by kernel_rfl) (by kernel_rfl)) ?_
  intro W base args ds gs before hval0 hW hcnd _
  have hval : ∀ (j : Nat) t v, Try.f3.params[j]? = some t → args[j]? = some v → Value.okWide Try.prog W .any base t v := hval0
  have hW' := hW
  obtain ⟨p, q, hA0, hV, rfl, hfz, hnd⟩ := hW
  have hA : DataW.TrodAll enc Try.prog W 0 (fun _ => true) true Try.f3.params.toList args.toList ds p := hA0
  rw [Try.params3] at hA hval
  obtain ⟨v0, vs0, d0, ds0, p0, q0, hargs, rfl, rfl, h0, r0⟩ := trodAll_cons hA
  obtain ⟨v1, vs1, d1, ds1, p1, q1, rfl, rfl, rfl, h1, r1⟩ := trodAll_cons r0
  obtain ⟨rfl, rfl, rfl⟩ := trodAll_nil r1
  obtain rfl : args = #[v0, v1] := by cases args; simp_all
  obtain ⟨rfl, rfl⟩ := trodVars_none hV
  have k0 := h0
  have lt0 : ∀ x ∈ p0, x.block < W.heap.size := by obtain ⟨m, hm⟩ := k0; exact DataW.trod_lt m _ _ _ hm
  have k1 := h1
  have lt1 : ∀ x ∈ p1, x.block < W.heap.size := by obtain ⟨m, hm⟩ := k1; exact DataW.trod_lt m _ _ _ hm
  obtain ⟨a0, rfl, _, _, w0⟩ := open_int Try.underlying3 (hval 0 3 v0 rfl rfl) h0
  obtain ⟨a1, rfl, _, _, w1⟩ := open_int Try.underlying3 (hval 1 3 v1 rfl rfl) h1
  clear hA0 hval0
  refine (walk a0 a1 W (bounds_i64 w0) (bounds_i64 w1)).mono fun e W' ⟨he, bel⟩ => ?_
  subst he
  exact ⟨_, rfl, _, _, _, [], _, [], hW', trodAll_mk1 (shut_bool Try.underlying4 _), (trodAll_cons_mk (Below.trod laidOut (by kernel_rfl) (of_decide_eq_true (by kernel_rfl)) k0 bel lt0) (trodAll_cons_mk (Below.trod laidOut (by kernel_rfl) (of_decide_eq_true (by kernel_rfl)) k1 bel lt1) trodAll_mk0)), rfl, bel.frame _, fun h => by cases h⟩
theorem holds : Rows.arenaNewsRow.holds Try.pinned (OpenSpec.ofChange Rows.arenaNewsSpec) :=
  OpenClaim.holds_of_wide 3 Try.f3 rfl rfl rfl rfl rfl rfl rfl ⟨rfl, rfl, rfl, rfl, rfl⟩ rfl rfl rfl rfl rfl (by kernel_rfl) Try.func3 (by kernel_rfl)
    (of_decide_eq_true (by kernel_rfl)) (by unfold Func.isWrapper; first | (rw [if_pos (by decide +kernel)]; kernel_rfl) | (rw [if_neg (by decide +kernel)]; exact ⟨rfl, rfl⟩))
    (fun os started H enc _ => lifted os started H enc)
theorem proved : Rows.ArenaNewsSaid := holds
end lawNews
end Go.Proofs.Ytflblojmjdlhiaa
