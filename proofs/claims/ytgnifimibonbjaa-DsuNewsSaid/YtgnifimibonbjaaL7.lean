/- DsuNews: the law answers true at every number of elements and any two numbers. -/
import Derived.Test.YtgnifimibonbjaaU
import Derived.Test.YtgnifimibonbjaaOp
import Derived.Test.YtgnifimibonbjaaRows
import Derived.Deep.CutRange
set_option linter.unusedVariables false
set_option linter.unusedSimpArgs false
namespace Go.Proofs.Ytgnifimibonbjaa
open Go.RowKit
theorem sizeV_id (n : Nat) (x : Int) : sizeV n (fun i => i) x ≤ 1 := by
  unfold sizeV
  split
  · rw [cnt_id]; split <;> omega
  · omega
theorem rd2_nil (w : World) : Rd2 0 w (.slice none 0 0) [] := ⟨none, 0, rfl, .inl rfl⟩
theorem id_low (n : Nat) : ∀ i, i < n → (fun i : Nat => i) i ≤ i := fun i _ => Nat.le_refl _
namespace lawNews
open Go.ChangeShapes Go.WideShapes Go.ChangeAt Go.RowKit Go.Joins
set_option maxRecDepth 100000 in
set_option maxHeartbeats 16000000 in
theorem walk (a0 : Int) (a1 : Int) (a2 : Int) (w : World) (b0 : -9223372036854775808 ≤ a0 ∧ a0 ≤ 9223372036854775807) (b1 : -9223372036854775808 ≤ a1 ∧ a1 ≤ 9223372036854775807) (b2 : -9223372036854775808 ≤ a2 ∧ a2 ≤ 9223372036854775807) : Calls Try.prog 3 #[.int .i64 a0, .int .i64 a1, .int .i64 a2] w fun e w' => e = .returned (.bool true) ∧ Below w.heap.size w w' := by
  by_cases hbad : a0 < 0 ∨ 65536 < a0
  · have N := hide (new_f a0 hbad w)
    have S := hide (snew_f a0 hbad w)
    have A := hide (agree_f w a1 a2)
    have dt : (decide ((3000 : Int) < a0) && decide (a0 ≤ 65536)) = false := by
      rcases hbad with h | h
      · simp; omega
      · simp; omega
    rcases hbad with h | h
    all_goals
      have HB := hide dt
      clear b0 b1 b2 dt
      go_enter Try.func3, Try.ntmps3
      go_wp2_with fail
      refine N.out.mono ?_
      rintro e w' ⟨rfl, rfl⟩
      go_wp2_with fail
      refine S.out.mono ?_
      rintro e w' ⟨rfl, rfl⟩
      go_wp2_with fail
      refine A.out.mono ?_
      rintro e w1 ⟨rfl, k1⟩
      have K1 := hide k1
      clear k1 A S N
      go_wp2_with fail
      refine (groups_f none w1 (.inl rfl)).mono ?_
      rintro e w' ⟨rfl, rfl⟩
      go_wp2_with fail
      refine (sgroups_f w1).mono ?_
      rintro e w' ⟨rfl, rfl⟩
      go_wp2_with fail
      refine (groups_rd w1 _ _ [] (rd2_nil w1) (rd2_nil w1) (by simp) (by simp)).mono ?_
      rintro e w2 ⟨rfl, m, rfl⟩
      have K2 := hide (K1.out.trans (Kp.drewN [] w1 m) (by simp))
      clear K1
      go_wp2_with fail
      refine (works _).mono ?_
      rintro e w3 ⟨rfl, bw⟩
      have HW := hide bw
      clear bw
      go_wp2_with fail
      go_ret
      exact ⟨rfl, (K2.out.below (by simp) (Nat.le_refl _)).trans (HW.out.mono K2.out.size)⟩
  · obtain ⟨n, rfl⟩ : ∃ n : Nat, a0 = (n : Int) := ⟨a0.toNat, by omega⟩
    have hn : n ≤ 65536 := by omega
    have N := hide (new_t (B := w.heap.size) n hn w (Nat.le_refl _))
    have HN := hide hn
    by_cases h3 : 3000 < n
    · have d1 : decide ((3000 : Int) < (n : Int)) = true := by simp; omega
      have d2 : decide ((n : Int) ≤ 65536) = true := by simp; omega
      clear b0 b1 b2 hbad
      go_enter Try.func3, Try.ntmps3
      go_wp2_with fail
      refine N.out.mono ?_
      rintro e w1 ⟨b, own, rfl, h1, ho, k1⟩
      have H1 := hide h1
      have HO := hide ho
      have K1 := hide k1
      clear h1 ho k1 N hn
      have C := hide (count_t H1.out)
      rw [roots_id] at C
      have sv := sizeV_id n a1
      have SZ := hide (size_any H1.out a1)
      generalize sizeV n (fun i => i) a1 = sz at *
      have ds : decide ((sz : Int) ≤ 1) = true := by simp; omega
      go_wp2_with fail
      refine (len_t H1.out).mono ?_
      rintro e w' ⟨rfl, rfl⟩
      go_wp2_with fail
      refine C.out.mono ?_
      rintro e w' ⟨rfl, rfl⟩
      go_wp2_with fail
      refine SZ.out.mono ?_
      rintro e w2 ⟨rfl, h2, k2⟩
      have K2 := hide (K1.out.trans k2 (fun z hz => .inr (HO.out z hz)))
      clear h2 k2 SZ C K1
      go_wp2_with fail
      refine (works _).mono ?_
      rintro e w3 ⟨rfl, bw⟩
      have HW := hide bw
      clear bw
      go_wp2_with fail
      go_ret
      exact ⟨rfl, (K2.out.below (by simp) (Nat.le_refl _)).trans (HW.out.mono K2.out.size)⟩
    · have d1 : decide ((3000 : Int) < (n : Int)) = false := by simp; omega
      clear b0 b1 b2 hbad
      go_enter Try.func3, Try.ntmps3
      go_wp2_with fail
      refine N.out.mono ?_
      rintro e w1 ⟨b, own, rfl, h1, ho, k1⟩
      have H1 := hide h1
      have HO := hide ho
      have K1 := hide k1
      have S := hide (snew_t n hn w1)
      clear h1 ho k1 N hn
      go_wp2_with fail
      refine S.out.mono ?_
      rintro e w2 ⟨d, own2, rfl, h2, ho2, k2⟩
      have H2 := hide h2
      have AP := hide (show ∀ x ∈ own2, x ∉ own from fun x hx hy => by have := ho2 x hx; have := (H1.out.lt x hy).2; omega)
      have D2 := hide (H1.out.keep k2 (by simp))
      have K2 := hide (K1.out.trans k2 (by simp))
      clear h2 ho2 k2 S H1 K1
      have A := hide (agree_t D2.out H2.out AP.out a1 a2)
      go_wp2_with fail
      refine A.out.mono ?_
      rintro e w3 ⟨rfl, h3', s3, k3⟩
      have D3 := hide h3'
      have S3 := hide s3
      have K3 := hide (K2.out.trans k3 (fun z hz => .inr (HO.out z hz)))
      clear h3' s3 k3 A D2 H2 K2
      have G := hide (groups_t D3.out)
      go_wp2_with fail
      refine G.out.mono ?_
      rintro e w4 ⟨v4, rfl, g4, h4, k4⟩
      have G4 := hide g4
      have S4 := hide (S3.out.keep k4 AP.out)
      have K4 := hide (K3.out.trans k4 (fun z hz => .inr (HO.out z hz)))
      clear g4 h4 k4 G D3 S3 K3
      have G := hide (sgroups_t S4.out (id_low n))
      go_wp2_with fail
      refine G.out.mono ?_
      rintro e w5 ⟨v5, rfl, g5, k5⟩
      have GR := hide (groups_rd w5 v4 v5 (grp (fun i => i) n) (G4.out.keep k5 (by simp)) g5 (grp_lens HN.out).1 (grp_lens HN.out).2)
      have K5 := hide (K4.out.trans k5 (by simp))
      clear g5 k5 G S4 K4 G4
      go_wp2_with fail
      refine GR.out.mono ?_
      rintro e w6 ⟨rfl, m, rfl⟩
      have K6 := hide (K5.out.trans (Kp.drewN [] w5 m) (by simp))
      clear GR K5
      go_wp2_with fail
      refine (works _).mono ?_
      rintro e w7 ⟨rfl, bw⟩
      have HW := hide bw
      clear bw
      go_wp2_with fail
      go_ret
      exact ⟨rfl, (K6.out.below (by simp) (Nat.le_refl _)).trans (HW.out.mono K6.out.size)⟩
theorem own : ownKnob Try.prog.godebug = none := by kernel_rfl
theorem laidOut : laidOutB Try.prog = true := by kernel_rfl
set_option maxRecDepth 100000 in
theorem lifted (os : Os) (started : os.Started) (H : Type) (enc : TypeId × Value → H) :
    ReturnsInHanded {} Try.checked os 3 .any (Rows.dsuNewsSpec.pre6 enc Try.prog Try.f3 Rows.dsuNewsRow.domain false) (Rows.dsuNewsSpec.post enc Try.prog Try.f3 false true false false) := by
  refine returnsInHanded_of_change (C := Try.checked) own started (by kernel_rfl) Try.func3
    (ChangeSpec.witness6 (enc := enc) (C := Try.checked) false ⟨#[], #[.int .i64 0, .int .i64 0, .int .i64 0], []⟩ 8 (by kernel_rfl) (by kernel_rfl) (by kernel_rfl) (by kernel_rfl)) ?_
  intro W base args ds gs before hval0 hW hcnd _
  have hval : ∀ (j : Nat) t v, Try.f3.params[j]? = some t → args[j]? = some v → Value.okWide Try.prog W .any base t v := hval0
  have hW' := hW
  obtain ⟨p, q, hA0, hV, rfl, hfz, hnd⟩ := hW
  have hA : DataW.TrodAll enc Try.prog W 0 (fun _ => true) true Try.f3.params.toList args.toList ds p := hA0
  rw [Try.params3] at hA hval
  obtain ⟨v0, vs0, d0, ds0, p0, q0, hargs, rfl, rfl, h0, r0⟩ := trodAll_cons hA
  obtain ⟨v1, vs1, d1, ds1, p1, q1, rfl, rfl, rfl, h1, r1⟩ := trodAll_cons r0
  obtain ⟨v2, vs2, d2, ds2, p2, q2, rfl, rfl, rfl, h2, r2⟩ := trodAll_cons r1
  obtain ⟨rfl, rfl, rfl⟩ := trodAll_nil r2
  obtain rfl : args = #[v0, v1, v2] := by cases args; simp_all
  obtain ⟨rfl, rfl⟩ := trodVars_none hV
  have k0 := h0
  have lt0 : ∀ x ∈ p0, x.block < W.heap.size := by obtain ⟨m, hm⟩ := k0; exact DataW.trod_lt m _ _ _ hm
  have k1 := h1
  have lt1 : ∀ x ∈ p1, x.block < W.heap.size := by obtain ⟨m, hm⟩ := k1; exact DataW.trod_lt m _ _ _ hm
  have k2 := h2
  have lt2 : ∀ x ∈ p2, x.block < W.heap.size := by obtain ⟨m, hm⟩ := k2; exact DataW.trod_lt m _ _ _ hm
  obtain ⟨a0, rfl, _, _, w0⟩ := open_int Try.underlying3 (hval 0 3 v0 rfl rfl) h0
  obtain ⟨a1, rfl, _, _, w1⟩ := open_int Try.underlying3 (hval 1 3 v1 rfl rfl) h1
  obtain ⟨a2, rfl, _, _, w2⟩ := open_int Try.underlying3 (hval 2 3 v2 rfl rfl) h2
  clear hA0 hval0
  refine (walk a0 a1 a2 W (bounds_i64 w0) (bounds_i64 w1) (bounds_i64 w2)).mono fun e W' ⟨he, bel⟩ => ?_
  subst he
  exact ⟨_, rfl, _, _, _, [], _, [], hW', trodAll_mk1 (shut_bool Try.underlying4 _), (trodAll_cons_mk (Below.trod laidOut (by kernel_rfl) (of_decide_eq_true (by kernel_rfl)) k0 bel lt0) (trodAll_cons_mk (Below.trod laidOut (by kernel_rfl) (of_decide_eq_true (by kernel_rfl)) k1 bel lt1) (trodAll_cons_mk (Below.trod laidOut (by kernel_rfl) (of_decide_eq_true (by kernel_rfl)) k2 bel lt2) trodAll_mk0))), rfl, bel.frame _, fun h => by cases h⟩
theorem holds : Rows.dsuNewsRow.holds Try.pinned (OpenSpec.ofChange Rows.dsuNewsSpec) :=
  OpenClaim.holds_of_wide 3 Try.f3 rfl rfl rfl rfl rfl rfl rfl ⟨rfl, rfl, rfl, rfl, rfl⟩ rfl rfl rfl rfl rfl (by kernel_rfl) Try.func3 (by kernel_rfl)
    (of_decide_eq_true (by kernel_rfl)) (by unfold Func.isWrapper; first | (rw [if_pos (by decide +kernel)]; kernel_rfl) | (rw [if_neg (by decide +kernel)]; exact ⟨rfl, rfl⟩))
    (fun os started H enc _ => lifted os started H enc)
theorem proved : Rows.DsuNewsSaid := holds
end lawNews
end Go.Proofs.Ytgnifimibonbjaa
