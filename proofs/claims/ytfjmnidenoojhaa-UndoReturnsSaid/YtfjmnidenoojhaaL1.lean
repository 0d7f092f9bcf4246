/- UndoReturns holds: undoing what was added behind a mark leads back to the sets as they were. -/
import Derived.Test.YtfjmnidenoojhaaAd
import Derived.Test.YtfjmnidenoojhaaOp
import Derived.Test.YtfjmnidenoojhaaRows
import Derived.Deep.CutRange
set_option linter.unusedVariables false
set_option linter.unusedSimpArgs false
namespace Go.Proofs.Ytfjmnidenoojhaa
open Go.RowKit
theorem own_lt {own own' : List Nat} {B : Nat} {W : World} (h : ∀ x ∈ own, B ≤ x) (n : ∀ q ∈ own', q ∈ own ∨ W.heap.size ≤ q) (hB : B ≤ W.heap.size) : ∀ x ∈ own', B ≤ x := fun x hx => by
  rcases n x hx with h1 | h1
  · exact h x h1
  · omega
theorem walk_long (s0 : Option Addr) (len0 cap0 : Nat) (s1 : Option Addr) (len1 cap1 : Nat) (w : World) (hs : ¬ (len0 ≤ 100 ∧ len1 ≤ 100)) : Calls Try.prog 5 #[.slice s0 len0 cap0, .slice s1 len1 cap1] w fun e w' => e = .returned (.bool true) ∧ Below w.heap.size w w' := by
  by_cases h0 : 100 < len0
  · have d0 : decide ((100 : Int) < (len0 : Int)) = true := by simp; omega
    clear hs h0
    go_enter Try.func5, Try.ntmps5
    go_wp2_with fail
    refine (works _).mono ?_
    rintro e w2 ⟨rfl, bw⟩
    go_wp2_with fail
    go_ret
    exact ⟨rfl, bw⟩
  · have d0 : decide ((100 : Int) < (len0 : Int)) = false := by simp; omega
    have d1 : decide ((100 : Int) < (len1 : Int)) = true := by simp; omega
    clear hs h0
    go_enter Try.func5, Try.ntmps5
    go_wp2_with fail
    refine (works _).mono ?_
    rintro e w2 ⟨rfl, bw⟩
    go_wp2_with fail
    go_ret
    exact ⟨rfl, bw⟩
namespace lawReturns
open Go.ChangeShapes Go.WideShapes Go.ChangeAt Go.RowKit Go.Joins
set_option maxRecDepth 100000 in
set_option maxHeartbeats 16000000 in
theorem walk (s0 : Option Addr) (len0 cap0 : Nat) (V0 : Nat → Nat → Int) (s1 : Option Addr) (len1 cap1 : Nat) (V1 : Nat → Nat → Int) (w : World) (hc0 : len0 ≤ cap0 ∧ cap0 ≤ maxLen) (hr0 : RowsI w s0 [.u8, .u8] len0 V0) (hc1 : len1 ≤ cap1 ∧ cap1 ≤ maxLen) (hr1 : RowsI w s1 [.u8, .u8] len1 V1) : Calls Try.prog 5 #[.slice s0 len0 cap0, .slice s1 len1 cap1] w fun e w' => e = .returned (.bool true) ∧ Below w.heap.size w w' := by
  by_cases hs : len0 ≤ 100 ∧ len1 ≤ 100
  case neg => exact walk_long s0 len0 cap0 s1 len1 cap1 w hs
  obtain ⟨hs0, hs1⟩ := hs
  have d0 : decide ((100 : Int) < (len0 : Int)) = false := by simp; omega
  have d1 : decide ((100 : Int) < (len1 : Int)) = false := by simp; omega
  have HR1 := hide hr1
  have HL1 := hide hs1
  have M0 := fun W (h : W = w) => hide (h ▸ made_t w (cap := cap0) hr0 hs0)
  have A1 := hide (tr_back (fun i => i) [] (X50 V0) (Y50 V0) len0)
  have M1 := hide (made_t w (cap := cap0) hr0 hs0)
  clear hr0 hr1 hs0 hs1 hc0 hc1 M0
  generalize hT : tr (fun i => i) [] (X50 V0) (Y50 V0) len0 = T at *
  clear hT
  obtain ⟨L, H⟩ := T
  simp only at M1 A1
  go_enter Try.func5, Try.ntmps5
  go_wp2_with fail
  refine M1.out.mono ?_
  rintro e w1 ⟨b, own, rfl, U, lo, k⟩
  have HU := hide U
  have HO := hide lo
  have HK := hide k
  have lt := hide U.lt
  have Q1 := hide (mark_u U)
  have Q2 := hide (labels_u U)
  clear U lo k M1 d0 d1
  go_wp2_with fail
  refine Q1.out.mono ?_
  rintro e w' ⟨rfl, rfl⟩
  go_wp2_with fail
  refine Q2.out.mono ?_
  rintro e w2 ⟨rfl, r2, k2⟩
  have HR2 := hide r2
  have HU2 := hide (HU.out.keep k2 (by simp))
  have HK2 := hide (HK.out.trans k2 (by simp))
  have HZ2 := hide k2.size
  have Q3 := hide (count_u HU2.out)
  obtain ⟨g, hg⟩ : ∃ g, g = w1.heap.size := ⟨_, rfl⟩
  rw [← hg] at HR2 ⊢
  have HG := hide (show (∀ x ∈ own, x < g) ∧ w.heap.size ≤ g by have := HK.out.size; exact ⟨fun x hx => by have := (lt.out x hx).2; omega, by omega⟩)
  clear r2 k2 Q1 Q2 hg lt
  go_wp2_with fail
  refine Q3.out.mono ?_
  rintro e w3 ⟨rfl, b3⟩
  have k3 : Kp [] w2 w3 := Kp.of_below b3
  have HU3 := hide (HU2.out.keep k3 (by simp))
  have HK3 := hide (HK2.out.trans k3 (by simp))
  have HR3 := hide (k3.row HR2.out (by simp))
  have Q := hide (add_t HU3.out (cap := cap1) (HR1.out.below (HK3.out.below (B := w.heap.size) (by simp) (Nat.le_refl _)) (Nat.le_refl _)) HL1.out HK3.out.size (fun bb off sp hl e hm => by
    subst e
    have h1 := HO.out bb hm
    rcases HR1.out with h0 | ⟨b', off', e', hb', _⟩
    · omega
    · injection e' with e'; injection e' with e'; omega))
  have A2 := hide (tr_back L H (X50 V1) (Y50 V1) len1)
  generalize hT : tr L H (X50 V1) (Y50 V1) len1 = T at *
  clear hT b3 k3 Q3 HU2 HK2 HR2 HU HR1
  obtain ⟨L2, H2⟩ := T
  simp only at Q A2
  go_wp2_with fail
  refine Q.out.mono ?_
  rintro e w4 ⟨rfl, own4, U4, k4, n4⟩
  have HU4 := hide U4
  have HO4 := hide (own_lt HO.out n4 HK3.out.size)
  have HK4 := hide (HK3.out.trans k4 (fun z hz => .inr (HO.out z hz)))
  have HR4 := hide (k4.row HR3.out (fun x hx hm => by simp [Value.ownBlock] at hx; subst hx; have := HG.out.1 _ hm; omega))
  have HG4 := hide (show g ∉ own4 from fun hm => by
    rcases n4 g hm with h | h
    · have := HG.out.1 g h; omega
    · have := (HR3.out.lt g rfl).2; omega)
  have Q := hide (undo_u U4 H.length A2.out.1 HK4.out.size)
  rw [A2.out.2.1, A2.out.2.2] at Q
  clear U4 k4 n4 HU3 HK3 HR3 A2 HO HU4
  go_wp2_with fail
  refine Q.out.mono ?_
  rintro e w5 ⟨rfl, U5, k5⟩
  have HU5 := hide U5
  have HK5 := hide (HK4.out.trans k5 (fun z hz => .inr (HO4.out z hz)))
  have HR5 := hide (k5.row HR4.out (fun x hx hm => by simp [Value.ownBlock] at hx; subst hx; exact HG4.out hm))
  have Q1 := hide (mark_u U5)
  have Q2 := hide (count_u U5)
  clear U5 k5 HK4 HR4 Q
  go_wp2_with fail
  refine Q1.out.mono ?_
  rintro e w' ⟨rfl, rfl⟩
  go_wp2_with fail
  refine Q2.out.mono ?_
  rintro e w6 ⟨rfl, b6⟩
  have k6 : Kp [] w5 w6 := Kp.of_below b6
  have HU6 := hide (HU5.out.keep k6 (by simp))
  have HK6 := hide (HK5.out.trans k6 (by simp))
  have HR6 := hide (k6.row HR5.out (by simp))
  have Q3 := hide (labels_u HU6.out)
  clear b6 k6 Q1 Q2 HU5 HK5 HR5
  go_wp2_with fail
  refine Q3.out.mono ?_
  rintro e w7 ⟨rfl, r7, k7⟩
  have HU7 := hide (HU6.out.keep k7 (by simp))
  have HK7 := hide (HK6.out.trans k7 (by simp))
  have SM := hide (same_rows w7 50 L _ _ _ _ _ _ r7 (k7.row HR6.out (by simp)) (by omega))
  clear r7 k7 Q3 HU6 HK6 HR6
  go_wp2_with fail
  refine SM.out.mono ?_
  rintro e w8 ⟨rfl, k8⟩
  have HU8 := hide (HU7.out.keep k8 (by simp))
  have HK8 := hide (HK7.out.trans k8 (by simp))
  have Q := hide (undo_u HU8.out 0 (Nat.zero_le _) HK8.out.size)
  have EA : atL L H 0 = fun i => i := A1.out.2.2
  rw [EA, List.take_zero] at Q
  clear k8 SM HU7 HK7 EA A1
  go_wp2_with fail
  refine Q.out.mono ?_
  rintro e w9 ⟨rfl, U9, k9⟩
  have HU9 := hide U9
  have HK9 := hide (HK8.out.trans k9 (fun z hz => .inr (HO4.out z hz)))
  have Q1 := hide (count_u U9)
  rw [roots_id] at Q1
  clear U9 k9 Q HU8 HK8
  go_wp2_with fail
  refine Q1.out.mono ?_
  rintro e w10 ⟨rfl, b10⟩
  have k10 : Kp [] w9 w10 := Kp.of_below b10
  have HU10 := hide (HU9.out.keep k10 (by simp))
  have HK10 := hide (HK9.out.trans k10 (by simp))
  have Q2 := hide (mark_u HU10.out)
  have Q3 := hide (labels_u HU10.out)
  clear b10 k10 Q1 HU9 HK9
  go_wp2_with fail
  refine Q2.out.mono ?_
  rintro e w' ⟨rfl, rfl⟩
  go_wp2_with fail
  refine Q3.out.mono ?_
  rintro e w11 ⟨rfl, r11, k11⟩
  have HK11 := hide (HK10.out.trans k11 (by simp))
  have HR11 := hide r11
  obtain ⟨g2, hg2⟩ : ∃ g, g = w10.heap.size := ⟨_, rfl⟩
  rw [← hg2] at HR11 ⊢
  clear r11 k11 Q2 Q3 hg2 HU10
  go_wp2_with fail
  go_loop [10] (fun i => ∃ k : Nat, k ≤ 50 ∧ i = .int .i64 (k : Int)) (fun i => 50 - (intOf i).toNat)
  case atStart => exact ⟨0, by omega, rfl⟩
  case round =>
    obtain ⟨k, hk, rfl⟩ := hrel
    by_cases hlt : k < 50
    · have dk : decide ((k : Int) < 50) = true := by simp; omega
      have e1 := HR11.out.cellAt k (by omega)
      rw [intsF_get (fun i => i) hlt] at e1
      have ww : IntKind.i64.wrap ((k : Int) + 1) = ((k + 1 : Nat) : Int) := by rw [IntKind.wrap_i64]; omega
      go_wp2_with fail
      go_round
      case rel => exact ⟨k + 1, by omega, by first | rfl | go_num⟩
      case measure => simp [intOf]; omega
    · have : k = 50 := by omega
      subst this
      go_wp2_with fail
      refine (works _).mono ?_
      rintro e w12 ⟨rfl, bw⟩
      have HW := hide bw
      clear bw
      go_wp2_with fail
      go_ret
      exact ⟨rfl, (below_kp HK11.out).trans (HW.out.mono HK11.out.size)⟩
theorem own : ownKnob Try.prog.godebug = none := by kernel_rfl
theorem laidOut : laidOutB Try.prog = true := by kernel_rfl
set_option maxRecDepth 100000 in
theorem lifted (os : Os) (started : os.Started) (H : Type) (enc : TypeId × Value → H) :
    ReturnsInHanded {} Try.checked os 5 .any (Rows.undoReturnsSpec.pre6 enc Try.prog Try.f5 Rows.undoReturnsRow.domain false) (Rows.undoReturnsSpec.post enc Try.prog Try.f5 false true false false) := by
  refine returnsInHanded_of_change (C := Try.checked) own started (by kernel_rfl) Try.func5
    (ChangeSpec.witness6 (enc := enc) (C := Try.checked) false ⟨#[], #[.slice none 0 0, .slice none 0 0], []⟩ 8 (by kernel_rfl) (by kernel_rfl) (by kernel_rfl) (by kernel_rfl)) ?_
  intro W base args ds gs before hval0 hW hcnd _
  have hval : ∀ (j : Nat) t v, Try.f5.params[j]? = some t → args[j]? = some v → Value.okWide Try.prog W .any base t v := hval0
  have hW' := hW
  obtain ⟨p, q, hA0, hV, rfl, hfz, hnd⟩ := hW
  have hA : DataW.TrodAll enc Try.prog W 0 (fun _ => true) true Try.f5.params.toList args.toList ds p := hA0
  rw [Try.params5] at hA hval
  obtain ⟨v0, vs0, d0, ds0, p0, q0, hargs, rfl, rfl, h0, r0⟩ := trodAll_cons hA
  obtain ⟨v1, vs1, d1, ds1, p1, q1, rfl, rfl, rfl, h1, r1⟩ := trodAll_cons r0
  obtain ⟨rfl, rfl, rfl⟩ := trodAll_nil r1
  obtain rfl : args = #[v0, v1] := by cases args; simp_all
  obtain ⟨rfl, rfl⟩ := trodVars_none hV
  have k0 := h0
  have lt0 : ∀ x ∈ p0, x.block < W.heap.size := by obtain ⟨m, hm⟩ := k0; exact DataW.trod_lt m _ _ _ hm
  have k1 := h1
  have lt1 : ∀ x ∈ p1, x.block < W.heap.size := by obtain ⟨m, hm⟩ := k1; exact DataW.trod_lt m _ _ _ hm
  obtain ⟨s0, len0, cap0, rfl⟩ := okWide_slice Try.underlying46 (hval 0 46 v0 rfl rfl)
  obtain ⟨V0, hc0, hr0⟩ := rows_in Try.underlying46 (flat_array Try.underlying57 Try.underlying5 (by kernel_rfl) (by kernel_rfl) : FlatI Try.prog 57 [.u8, .u8]) (by decide) h0
  obtain ⟨s1, len1, cap1, rfl⟩ := okWide_slice Try.underlying46 (hval 1 46 v1 rfl rfl)
  obtain ⟨V1, hc1, hr1⟩ := rows_in Try.underlying46 (flat_array Try.underlying57 Try.underlying5 (by kernel_rfl) (by kernel_rfl) : FlatI Try.prog 57 [.u8, .u8]) (by decide) h1
  clear hA0 hval0
  refine (walk s0 len0 cap0 V0 s1 len1 cap1 V1 W hc0 hr0 hc1 hr1).mono fun e W' ⟨he, bel⟩ => ?_
  subst he
  exact ⟨_, rfl, _, _, _, [], _, [], hW', trodAll_mk1 (shut_bool Try.underlying4 _), (trodAll_cons_mk (Below.trod laidOut (by kernel_rfl) (of_decide_eq_true (by kernel_rfl)) k0 bel lt0) (trodAll_cons_mk (Below.trod laidOut (by kernel_rfl) (of_decide_eq_true (by kernel_rfl)) k1 bel lt1) trodAll_mk0)), rfl, bel.frame _, fun h => by cases h⟩
theorem holds : Rows.undoReturnsRow.holds Try.pinned (OpenSpec.ofChange Rows.undoReturnsSpec) :=
  OpenClaim.holds_of_wide 5 Try.f5 rfl rfl rfl rfl rfl rfl rfl ⟨rfl, rfl, rfl, rfl, rfl⟩ rfl rfl rfl rfl rfl (by kernel_rfl) Try.func5 (by kernel_rfl)
    (of_decide_eq_true (by kernel_rfl)) (by unfold Func.isWrapper; first | (rw [if_pos (by decide +kernel)]; kernel_rfl) | (rw [if_neg (by decide +kernel)]; exact ⟨rfl, rfl⟩))
    (fun os started H enc _ => lifted os started H enc)
theorem proved : Rows.UndoReturnsSaid := holds
end lawReturns
end Go.Proofs.Ytfjmnidenoojhaa
