/- UndoCounts holds: unions in force and sets together are as many as there are elements; so are the sizes of all sets. -/
import Derived.Test.YtfjmnidenoojhaaSz
import Derived.Test.YtfjmnidenoojhaaOp
import Derived.Test.YtfjmnidenoojhaaRows
import Derived.Deep.CutRange
set_option linter.unusedVariables false
set_option linter.unusedSimpArgs false
namespace Go.Proofs.Ytfjmnidenoojhaa
open Go.RowKit
theorem sumTo_ones (n : Nat) : sumTo (fun _ => 1) n = n := by
  induction n with
  | zero => rfl
  | succ n ih => simp only [sumTo, ih]
/-- the size of the set whose least element is i; 0 if there is none -/
def lsz (L : Nat → Nat) (i : Nat) : Nat := if L i = i then cnt L i 50 else 0
theorem lsz_all {L : Nat → Nat} (le : ∀ i, i < 50 → L i ≤ i) (idem : ∀ i, i < 50 → L (L i) = L i) : sumTo (lsz L) 50 = 50 := by
  have h1 : ∀ i, i < 50 → lsz L i = 1 * cnt L i 50 := by
    intro i hi
    unfold lsz
    split
    · omega
    · rename_i hn
      rw [Nat.one_mul]
      apply Eq.symm
      apply Classical.byContradiction
      intro e
      obtain ⟨j, hj, hl⟩ := cnt_some 50 e
      apply hn
      rw [← hl]; exact idem j hj
  rw [sumTo_congr h1 50 (Nat.le_refl _), sum_swap L (fun _ => 1) 50 50 (fun j hj => by have := le j hj; omega), sumTo_ones]
theorem roots_le (L : Nat → Nat) : ∀ k, roots L k ≤ k := by
  intro k
  induction k with
  | zero => exact Nat.le_refl _
  | succ k ih => simp only [roots]; split <;> omega
namespace lawCounts
open Go.ChangeShapes Go.WideShapes Go.ChangeAt Go.RowKit Go.Joins
set_option maxRecDepth 100000 in
set_option maxHeartbeats 16000000 in
theorem walk (s0 : Option Addr) (len0 cap0 : Nat) (V0 : Nat → Nat → Int) (w : World) (hc0 : len0 ≤ cap0 ∧ cap0 ≤ maxLen) (hr0 : RowsI w s0 [.u8, .u8] len0 V0) : Calls Try.prog 6 #[.slice s0 len0 cap0] w fun e w' => e = .returned (.bool true) ∧ Below w.heap.size w w' := by
  by_cases hs : 100 < len0
  · have d0 : decide ((100 : Int) < (len0 : Int)) = true := by simp; omega
    clear hs hr0 hc0
    go_enter Try.func6, Try.ntmps6
    go_wp2_with fail
    refine (works _).mono ?_
    rintro e w2 ⟨rfl, bw⟩
    go_wp2_with fail
    go_ret
    exact ⟨rfl, bw⟩
  have d0 : decide ((100 : Int) < (len0 : Int)) = false := by simp; omega
  have M1 := hide (made_t w (cap := cap0) hr0 (by omega))
  clear hs hc0 hr0
  generalize tr (fun i => i) [] (X50 V0) (Y50 V0) len0 = T at *
  obtain ⟨L, H⟩ := T
  simp only at M1
  go_enter Try.func6, Try.ntmps6
  go_wp2_with fail
  clear d0
  refine M1.out.mono ?_
  rintro e w1 ⟨b, own, rfl, U, lo, k⟩
  have HU := hide U
  have HK := hide k
  have FA := hide U.facts
  have Q1 := hide (mark_u U)
  have Q2 := hide (count_u U)
  have sm : ((H.length : Nat) : Int) + ((roots L 50 : Nat) : Int) = 50 := by have := U.facts.2; omega
  clear U lo k M1
  obtain ⟨hl, hhl⟩ : ∃ q, q = H.length := ⟨_, rfl⟩
  rw [← hhl] at sm Q1
  clear hhl
  generalize hrr : roots L 50 = rr at *
  have HRR := hide hrr
  clear hrr
  go_wp2_with fail
  refine Q1.out.mono ?_
  rintro e w' ⟨rfl, rfl⟩
  go_wp2_with fail
  refine Q2.out.mono ?_
  rintro e w2 ⟨rfl, b2⟩
  have k2 : Kp [] w1 w2 := Kp.of_below b2
  have HU2 := hide (HU.out.keep k2 (by simp))
  have HK2 := hide (HK.out.trans k2 (by simp))
  have Q3 := hide (labels_u HU2.out)
  clear b2 k2 Q1 Q2 HU HK
  go_wp2_with fail
  refine Q3.out.mono ?_
  rintro e w3 ⟨rfl, r3, k3⟩
  have HU3 := hide (HU2.out.keep k3 (by simp))
  have HK3 := hide (HK2.out.trans k3 (by simp))
  have HR3 := hide r3
  obtain ⟨g, hg⟩ : ∃ g, g = w2.heap.size := ⟨_, rfl⟩
  rw [← hg] at HR3 ⊢
  clear r3 k3 Q3 hg HU2 HK2 sm
  obtain ⟨B0, hB0⟩ : ∃ B0, Hid (w3.ownsRow B0 3 1 (.slice (some ⟨g, 0, none⟩) 50 50) 50 (intsF 50 L)) := ⟨_, HR3⟩
  clear HR3
  have HR3 := hB0
  clear hB0
  go_wp2_with fail
  go_loopw [5, 6, 7] (fun s c i wr => ∃ k : Nat, k ≤ 50 ∧ i = .int .i64 (k : Int) ∧ s = .int .i64 ((sumTo (lsz L) k : Nat) : Int) ∧ c = .int .i64 ((roots L k : Nat) : Int) ∧ Hid (∃ q, wr = w3.drewN q)) (fun _ _ i _ => 50 - (intOf i).toNat)
  case atStart => exact ⟨0, by omega, rfl, rfl, rfl, ⟨0, rfl⟩⟩
  case round =>
    obtain ⟨k, hk, rfl, rfl, rfl, hq⟩ := hrel
    obtain ⟨q0, rfl⟩ := hq.out
    obtain ⟨W, hW⟩ : ∃ W, W = w3.drewN q0 := ⟨_, rfl⟩
    have HW := hide hW
    have UW : Hid (US w.heap.size W b own 50 L H) := by rw [hW]; exact HU3.out.keep (Kp.drewN [] w3 q0) (by simp)
    have RW : Hid (W.ownsRow B0 3 1 (.slice (some ⟨g, 0, none⟩) 50 50) 50 (intsF 50 L)) := by rw [hW]; exact (Kp.drewN [] w3 q0).row HR3.out (by simp)
    rw [← hW]
    clear hW hq
    by_cases hlt : k < 50
    · have dk : decide ((k : Int) < 50) = true := by simp; omega
      obtain ⟨⟨le, idem⟩, _⟩ := FA.out
      have e1 := RW.out.cellAt k (by omega)
      rw [intsF_get L hlt] at e1
      have l1 := le k hlt
      have l2 := idem k hlt
      have e2 := RW.out.cellAt (L k) (by omega)
      rw [intsF_get L (by omega), l2] at e2
      have S1 : ∀ m, Hid (Calls Try.prog 29 #[.pointer (some ⟨b, 0, none⟩), .int .i64 (k : Int), .int .i64 ((L k : Nat) : Int)] (W.drewN m) fun e w' => e = .returned (.bool true) ∧ w' = W.drewN m) := fun m => hide ((same_u (UW.out.keep (Kp.drewN [] W m) (by simp)) k (L k) hlt (by omega)).mono (fun e w' h => ⟨by rw [h.1]; simp [l2], h.2.symm⟩))
      have Z1 := fun m => hide (size_qu (UW.out.keep (Kp.drewN [] W m) (by simp)) k hlt)
      have Z2 := fun m => hide (size_qu (UW.out.keep (Kp.drewN [] W m) (by simp)) (L k) (by omega))
      rw [l2] at Z2
      have ww : IntKind.i64.wrap ((k : Int) + 1) = ((k + 1 : Nat) : Int) := by rw [IntKind.wrap_i64]; omega
      have t1 : decide ((L k : Int) < 0) = false := by simp
      have t2 : decide (k < L k) = false := by simp; omega
      have cb := cnt_le L (L k) 50
      have sb := sumTo_mono (lsz L) (show k ≤ 50 by omega)
      have sa := lsz_all le idem
      have rb := roots_le L k
      have NS := hide (show sumTo (lsz L) (k + 1) = sumTo (lsz L) k + lsz L k from rfl)
      have NC := hide (show roots L (k + 1) = roots L k + if L k = k then 1 else 0 from rfl)
      by_cases he : L k = k
      · have lz : lsz L k = cnt L (L k) 50 := by unfold lsz; rw [if_pos he, he]
        have sn := sumTo_mono (lsz L) (show k + 1 ≤ 50 by omega)
        rw [NS.out] at sn
        rw [lz] at NS sn
        rw [if_pos he] at NC
        rw [he] at e1 S1 Z1 Z2 t1 t2 NS cb sn
        clear e2 lz le idem l1 l2 he
        have Z3 := fun m => hide (size_qu (UW.out.keep (Kp.drewN [] W m) (by simp)) k hlt)
        generalize sumTo (lsz L) k = sk at *
        generalize roots L k = rk at *
        generalize cnt L k 50 = z at *
        obtain ⟨sk1, hsk⟩ : ∃ q, q = sk + z := ⟨_, rfl⟩
        obtain ⟨rk1, hrk⟩ : ∃ q, q = rk + 1 := ⟨_, rfl⟩
        have as1 : (sk : Int) + (z : Int) = (sk1 : Int) := by omega
        have wsk : IntKind.i64.wrap (sk1 : Int) = (sk1 : Int) := by rw [IntKind.wrap_i64]; omega
        have ar1 : (rk : Int) + 1 = (rk1 : Int) := by omega
        have wrk : IntKind.i64.wrap (rk1 : Int) = (rk1 : Int) := by rw [IntKind.wrap_i64]; omega
        rw [← hsk] at NS
        rw [← hrk] at NC
        clear hsk hrk Z3 sn sb sa rb cb
        go_wp2_with fail
        go_quiet ((first | (go_at_call 29; exact Calls.quiet_of_same (S1 _).out) | (go_at_call 30; exact Calls.quiet_of (Z1 _).out)))
        go_wp2_with fail
        refine (Z1 nq).out.mono ?_
        rintro e w4 ⟨rfl, q2, rfl⟩
        go_wp2_with fail
        go_roundw
        case rel => exact ⟨k + 1, by omega, by first | rfl | go_num, by rw [NS.out], by rw [NC.out], ⟨q0 + (nq + q2), by first | rw [HW.out, World.drewN_drewN] | rw [HW.out, World.drewN_drewN, World.drewN_drewN]⟩⟩
        case measure => simp [intOf]; omega
      · have lz : lsz L k = 0 := by unfold lsz; rw [if_neg he]
        have ne : ((L k : Int) == (k : Int)) = false := by simp; omega
        rw [lz, Nat.add_zero] at NS
        rw [if_neg he, Nat.add_zero] at NC
        have le2 : L k < 50 := by omega
        clear lz le idem l1 l2 he sb sa rb
        generalize sumTo (lsz L) k = sk at *
        generalize roots L k = rk at *
        generalize L k = lk at *
        generalize cnt L lk 50 = z at *
        go_wp2_with fail
        go_quiet ((first | (go_at_call 29; exact Calls.quiet_of_same (S1 _).out) | (go_at_call 30; with_reducible exact Calls.quiet_of (Z1 _).out) | (go_at_call 30; with_reducible exact Calls.quiet_of (Z2 _).out)))
        go_wp2_with fail
        go_roundw
        case rel => exact ⟨k + 1, by omega, by first | rfl | go_num, (by rw [NS.out]; rfl), (by rw [NC.out]; rfl), ⟨q0 + nq, by rw [HW.out, World.drewN_drewN]⟩⟩
        case measure => simp [intOf]; omega
    · have : k = 50 := by omega
      subst this
      obtain ⟨⟨le, idem⟩, _⟩ := FA.out
      have CU := hide (count_u UW.out)
      rw [HRR.out] at CU
      rw [lsz_all le idem, HRR.out]
      clear le idem
      have BW : Hid (Kp [] w W) := by rw [HW.out]; exact HK3.out.trans (Kp.drewN [] w3 q0) (by intro z hz; cases hz)
      go_wp2_with fail
      refine CU.out.mono ?_
      rintro e w4 ⟨rfl, b4⟩
      have K4 := hide (BW.out.trans (Kp.of_below (o := []) b4) (by simp))
      clear b4 CU
      go_wp2_with fail
      refine (works _).mono ?_
      rintro e w5 ⟨rfl, bw⟩
      have HW9 := hide bw
      clear bw
      go_wp2_with fail
      go_ret
      exact ⟨rfl, (below_kp K4.out).trans (HW9.out.mono K4.out.size)⟩
theorem own : ownKnob Try.prog.godebug = none := by kernel_rfl
theorem laidOut : laidOutB Try.prog = true := by kernel_rfl
set_option maxRecDepth 100000 in
theorem lifted (os : Os) (started : os.Started) (H : Type) (enc : TypeId × Value → H) :
    ReturnsInHanded {} Try.checked os 6 .any (Rows.undoCountsSpec.pre6 enc Try.prog Try.f6 Rows.undoCountsRow.domain false) (Rows.undoCountsSpec.post enc Try.prog Try.f6 false true false false) := by
  refine returnsInHanded_of_change (C := Try.checked) own started (by kernel_rfl) Try.func6
    (ChangeSpec.witness6 (enc := enc) (C := Try.checked) false ⟨#[], #[.slice none 0 0], []⟩ 8 (by kernel_rfl) (by kernel_rfl) (by kernel_rfl) (by kernel_rfl)) ?_
  intro W base args ds gs before hval0 hW hcnd _
  have hval : ∀ (j : Nat) t v, Try.f6.params[j]? = some t → args[j]? = some v → Value.okWide Try.prog W .any base t v := hval0
  have hW' := hW
  obtain ⟨p, q, hA0, hV, rfl, hfz, hnd⟩ := hW
  have hA : DataW.TrodAll enc Try.prog W 0 (fun _ => true) true Try.f6.params.toList args.toList ds p := hA0
  rw [Try.params6] at hA hval
  obtain ⟨v0, vs0, d0, ds0, p0, q0, hargs, rfl, rfl, h0, r0⟩ := trodAll_cons hA
  obtain ⟨rfl, rfl, rfl⟩ := trodAll_nil r0
  obtain rfl : args = #[v0] := by cases args; simp_all
  obtain ⟨rfl, rfl⟩ := trodVars_none hV
  have k0 := h0
  have lt0 : ∀ x ∈ p0, x.block < W.heap.size := by obtain ⟨m, hm⟩ := k0; exact DataW.trod_lt m _ _ _ hm
  obtain ⟨s0, len0, cap0, rfl⟩ := okWide_slice Try.underlying46 (hval 0 46 v0 rfl rfl)
  obtain ⟨V0, hc0, hr0⟩ := rows_in Try.underlying46 (flat_array Try.underlying57 Try.underlying5 (by kernel_rfl) (by kernel_rfl) : FlatI Try.prog 57 [.u8, .u8]) (by decide) h0
  clear hA0 hval0
  refine (walk s0 len0 cap0 V0 W hc0 hr0).mono fun e W' ⟨he, bel⟩ => ?_
  subst he
  exact ⟨_, rfl, _, _, _, [], _, [], hW', trodAll_mk1 (shut_bool Try.underlying4 _), (trodAll_cons_mk (Below.trod laidOut (by kernel_rfl) (of_decide_eq_true (by kernel_rfl)) k0 bel lt0) trodAll_mk0), rfl, bel.frame _, fun h => by cases h⟩
theorem holds : Rows.undoCountsRow.holds Try.pinned (OpenSpec.ofChange Rows.undoCountsSpec) :=
  OpenClaim.holds_of_wide 6 Try.f6 rfl rfl rfl rfl rfl rfl rfl ⟨rfl, rfl, rfl, rfl, rfl⟩ rfl rfl rfl rfl rfl (by kernel_rfl) Try.func6 (by kernel_rfl)
    (of_decide_eq_true (by kernel_rfl)) (by unfold Func.isWrapper; first | (rw [if_pos (by decide +kernel)]; kernel_rfl) | (rw [if_neg (by decide +kernel)]; exact ⟨rfl, rfl⟩))
    (fun os started H enc _ => lifted os started H enc)
theorem proved : Rows.UndoCountsSaid := holds
end lawCounts
end Go.Proofs.Ytfjmnidenoojhaa
