/- CheckedSums: for any list of numbers the law answers true: its sum is that of the specification, and the list stays as it was. No condition. -/
import Derived.Test.YtomgdleoegaooaaAp
import Derived.Test.YtomgdleoegaooaaS9
set_option linter.unusedVariables false
set_option linter.unusedSimpArgs false
namespace Go.Proofs.Ytomgdleoegaooaa.lawSums
open Go.ChangeShapes Go.WideShapes Go.ChangeAt Go.RowKit Go.Joins

set_option maxRecDepth 100000 in
set_option maxHeartbeats 1000000 in
theorem walk (s0 : Option Addr) (z0 : List Int) (c0 : Nat) (w : World)
    (h0 : Src w s0 z0 c0) (k0 : Ints w s0 z0) (al0 : allI z0) (hl0 : z0.length ≤ 1000) :
    Calls Try.prog 4 #[.slice s0 z0.length c0] w fun e w' => e = .returned (.bool true) ∧ Below w.heap.size w w' := by
  have d0 : decide ((1000 : Int) < z0.length) = false := by simp; omega
  have H0 := hide h0
  have bA : Below w.heap.size w (w.alloc (.cells #[] 2)) := (Below.refl _ _).alloc (Nat.le_refl _) _
  have oA := hide (World.ownsRow_made (base := w.heap.size) (e := 2) (size := 1) w #[] 0 (Nat.le_refl _) (Nat.zero_le _) rfl)
  have K0 := hide k0
  have AL0 := hide al0
  clear h0 k0 al0
  go_enter Try.func4, Try.ntmps4
  go_wp2_with (first
    | (at_builtin; refine append_src rfl (.tmp 12) (.tmp 13) rfl w.heap.size (.slice (some ⟨w.heap.size, 0, none⟩) 0 0) 0 [] rfl oA.out s0 z0 c0 rfl (H0.out.below bA) (by omega) bA.size ?_; intro v1 w1 hown1 hg1; rw [Nat.zero_add, List.nil_append] at hown1; have bB : Below w.heap.size w w1 := bA.grown hg1 bA.size (fun k hk => by cases hk; exact Nat.le_refl _); obtain ⟨a2, c2, rfl, i2, l2⟩ := owned_ints hown1; have I2 := hide i2; have L2 := hide l2; clear hown1 hg1 i2 l2))
  have BB := hide bB
  clear oA bA bB
  refine (sum_any a2 z0 c2 _ I2.out AL0.out (by omega)).mono ?_
  rintro e w2 ⟨rfl, b2⟩
  have BC := hide (BB.out.trans (b2.mono BB.out.size))
  have I3 := hide (I2.out.below b2 (Nat.le_refl _))
  clear b2
  go_wp2_with fail
  refine (ref_sum s0 z0 c0 _ (K0.out.below BC.out (Nat.le_refl _)) AL0.out (by omega)).mono ?_
  rintro e w3 hg
  obtain ⟨rfl, b3⟩ := hg.g
  have BD := hide (BC.out.trans (b3.mono BC.out.size))
  have I4 := hide (I3.out.below b3 (Nat.le_refl _))
  have I5 := hide (K0.out.below BD.out (Nat.le_refl _))
  clear b3 hg
  generalize gv (lsum z0) = x at *
  generalize ge (lsum z0) = xe at *
  go_wp2_with fail
  go_loopw [8] (fun i wr => ∃ k : Nat, k ≤ z0.length ∧ i = .int .i64 k ∧ Hid (Below w3.heap.size w3 wr)) (fun i _ => z0.length - (intOf i).toNat)
  case atStart => exact ⟨0, Nat.zero_le _, rfl, Below.refl _ _⟩
  case round =>
    obtain ⟨k, hk, rfl, hwr⟩ := hrel
    have J4 := hide (I4.out.below hwr.out (Nat.le_refl _))
    have J5 := hide (I5.out.below hwr.out (Nat.le_refl _))
    by_cases hlt : k < z0.length
    · have hc1 : ∃ b off, a2 = some ⟨b, off, none⟩ ∧ wr.cell? ⟨b, off + k, none⟩ = some (.int .i64 (z0.getD k 0)) := by
        rcases J4.out with h | ⟨b, off, h1, h2, h3⟩
        · rw [h] at hlt; simp at hlt
        · exact ⟨b, off, h1, h3 k hlt⟩
      have hc2 : ∃ b off, s0 = some ⟨b, off, none⟩ ∧ wr.cell? ⟨b, off + k, none⟩ = some (.int .i64 (z0.getD k 0)) := by
        rcases J5.out with h | ⟨b, off, h1, h2, h3⟩
        · rw [h] at hlt; simp at hlt
        · exact ⟨b, off, h1, h3 k hlt⟩
      obtain ⟨b, off, rfl, hc1⟩ := hc1
      obtain ⟨b', off', rfl, hc2⟩ := hc2
      generalize z0.getD k 0 = y at *
      go_wp2_with fail
      go_quiet (fail)
      go_wp2_with fail
      go_roundw
      case rel => exact ⟨k + 1, by omega, by go_num, below_drewN hwr.out _⟩
      case measure => simp [intOf]; omega
    · have BE := hide (BD.out.trans (hwr.out.mono BD.out.size))
      clear I4 I5 I3 I2 L2 J4 J5
      go_wp2_with fail
      refine (works _).mono ?_
      rintro e w4 ⟨rfl, b4⟩
      go_wp2_with fail
      go_ret
      exact ⟨rfl, BE.out.trans (b4.mono BE.out.size)⟩
theorem walk_long (s0 : Option Addr) (z0 : List Int) (c0 : Nat) (w : World) (h : 1000 < z0.length) :
    Calls Try.prog 4 #[.slice s0 z0.length c0] w fun e w' => e = .returned (.bool true) ∧ Below w.heap.size w w' := by
  have d0 : decide ((1000 : Int) < z0.length) = true := by simp; omega
  clear h
  go_enter Try.func4, Try.ntmps4
  go_wp2_with fail
  go_ret
  exact ⟨rfl, Below.refl _ _⟩
theorem walk_all (s0 : Option Addr) (z0 : List Int) (c0 : Nat) (w : World) (h0 : Src w s0 z0 c0) (k0 : Ints w s0 z0) (al0 : allI z0) :
    Calls Try.prog 4 #[.slice s0 z0.length c0] w fun e w' => e = .returned (.bool true) ∧ Below w.heap.size w w' := by
  by_cases g0 : 1000 < z0.length
  · exact walk_long s0 z0 c0 w g0
  exact walk s0 z0 c0 w h0 k0 al0 (by omega)
theorem own : ownKnob Try.prog.godebug = none := by kernel_rfl
theorem laidOut : laidOutB Try.prog = true := by kernel_rfl
set_option maxRecDepth 100000 in
theorem lifted (os : Os) (started : os.Started) (H : Type) (enc : TypeId × Value → H) :
    ReturnsInHanded {} Try.checked os 4 .any (Rows.checkedSumsSpec.pre6 enc Try.prog Try.f4 Rows.checkedSumsRow.domain false) (Rows.checkedSumsSpec.post enc Try.prog Try.f4 false true false false) := by
  refine returnsInHanded_of_change (C := Try.checked) own started (by kernel_rfl) Try.func4
    (ChangeSpec.witness6 (enc := enc) (C := Try.checked) false ⟨#[], #[.slice none 0 0], []⟩ 8 (by kernel_rfl) (by kernel_rfl) (by kernel_rfl) (by kernel_rfl)) ?_
  intro W base args ds gs before hval0 hW hcnd _
  have hval : ∀ (j : Nat) t v, Try.f4.params[j]? = some t → args[j]? = some v → Value.okWide Try.prog W .any base t v := hval0
  have hW' := hW
  obtain ⟨p, q, hA0, hV, rfl, hfz, hnd⟩ := hW
  have hA : DataW.TrodAll enc Try.prog W 0 (fun _ => true) true Try.f4.params.toList args.toList ds p := hA0
  rw [Try.params4] at hA hval
  obtain ⟨v0, vs0, d0, ds0, p0, q0, hargs, rfl, rfl, h0, r0⟩ := trodAll_cons hA
  obtain ⟨rfl, rfl, rfl⟩ := trodAll_nil r0
  obtain rfl : args = #[v0] := by cases args; simp_all
  obtain ⟨rfl, rfl⟩ := trodVars_none hV
  have k0 := h0
  have lt0 : ∀ x ∈ p0, x.block < W.heap.size := by obtain ⟨m, hm⟩ := k0; exact DataW.trod_lt m _ _ _ hm
  obtain ⟨s0, len0, cap0, rfl⟩ := okWide_slice Try.underlying27 (hval 0 27 v0 rfl rfl)
  obtain ⟨z0, hl0, hc0, hi0, hr0, hs0⟩ := ints_in2 Try.underlying27 Try.underlying2 (by kernel_rfl) h0
  subst hl0
  clear hA0 hval0
  refine (walk_all s0 z0 cap0 W hs0 hi0 hr0).mono fun e W' ⟨he, bel⟩ => ?_
  subst he
  exact ⟨_, rfl, _, _, _, [], _, [], hW', trodAll_mk1 (shut_bool Try.underlying4 _), (trodAll_cons_mk (Below.trod laidOut (by kernel_rfl) (of_decide_eq_true (by kernel_rfl)) k0 bel lt0) trodAll_mk0), rfl, bel.frame _, fun h => by cases h⟩
theorem holds : Rows.checkedSumsRow.holds Try.pinned (OpenSpec.ofChange Rows.checkedSumsSpec) :=
  OpenClaim.holds_of_wide 4 Try.f4 rfl rfl rfl rfl rfl rfl rfl ⟨rfl, rfl, rfl, rfl, rfl⟩ rfl rfl rfl rfl rfl (by kernel_rfl) Try.func4 (by kernel_rfl)
    (of_decide_eq_true (by kernel_rfl)) (by unfold Func.isWrapper; first | (rw [if_pos (by decide +kernel)]; kernel_rfl) | (rw [if_neg (by decide +kernel)]; exact ⟨rfl, rfl⟩))
    (fun os started H enc _ => lifted os started H enc)
theorem proved : Rows.CheckedSumsSaid := holds
end Go.Proofs.Ytomgdleoegaooaa.lawSums
