/- DsuLabels: the law answers true at every number and every list of pairs (at most 300 of each; else the example alone). -/
import Derived.Test.YtpidkfkjfcjniaaF
import Derived.Test.YtpidkfkjfcjniaaOp
import Derived.Test.YtpidkfkjfcjniaaRows
import Derived.Deep.CutRange
set_option linter.unusedVariables false
set_option linter.unusedSimpArgs false
namespace Go.Proofs.Ytpidkfkjfcjniaa
open Go.RowKit
namespace lawLabels
open Go.ChangeShapes Go.WideShapes Go.ChangeAt Go.RowKit Go.Joins
set_option maxRecDepth 100000 in
set_option maxHeartbeats 16000000 in
theorem walk (a0 : Int) (s1 : Option Addr) (len1 cap1 : Nat) (V1 : Nat → Nat → Int) (w : World) (b0 : -9223372036854775808 ≤ a0 ∧ a0 ≤ 9223372036854775807) (hc1 : len1 ≤ cap1 ∧ cap1 ≤ maxLen) (hr1 : RowsI w s1 [.i64, .i64] len1 V1) : Calls Try.prog 8 #[.int .i64 a0, .slice s1 len1 cap1] w fun e w' => e = .returned (.bool true) ∧ Below w.heap.size w w' := by
  have SM := small_t a0 s1 len1 cap1 w (by omega)
  by_cases hs : 0 ≤ a0 ∧ a0 ≤ 300 ∧ len1 ≤ 300
  · rw [show decide (0 ≤ a0 ∧ a0 ≤ 300 ∧ len1 ≤ 300) = true by simpa using hs] at SM
    obtain ⟨n, rfl⟩ : ∃ n : Nat, a0 = (n : Int) := ⟨a0.toNat, by omega⟩
    have HN := hide (show n ≤ 300 by omega)
    have UT := hide (united_t n (by omega) s1 len1 cap1 V1 w hr1 (by omega))
    clear hs b0 hc1 hr1
    go_enter Try.func8, Try.ntmps8
    go_wp2_with fail
    refine SM.mono ?_
    rintro e w' ⟨rfl, rfl⟩
    go_wp2_with fail
    refine UT.out.mono ?_
    rintro e w1 ⟨b, own, L, rfl, h1, _, ho, k1⟩
    have LT := hide (labels_t h1)
    have HG := hide (show w1.heap.size ∉ own ∧ w.heap.size ≤ w1.heap.size from ⟨fun hm => by have := (h1.lt _ hm).2; omega, k1.size⟩)
    have HO := hide ho
    have K1 := hide k1
    have GL := hide h1.good
    clear h1 ho k1 UT SM
    generalize w1.heap.size = g at *
    go_wp2_with fail
    refine LT.out.mono ?_
    rintro e w2 ⟨rfl, r2, h2, k2⟩
    have R2 := hide r2
    have H2 := hide h2
    have K2 := hide (K1.out.trans k2 (fun z hz => .inr (HO.out z hz)))
    clear r2 h2 k2 LT K1
    go_wp2_with fail
    go_loopw [7] (fun x wr => ∃ k : Nat, k ≤ n ∧ x = .int .i64 (k : Int) ∧ Hid (DAt w.heap.size wr b own n L) ∧ Hid (wr.ownsRow g 3 1 (.slice (some ⟨g, 0, none⟩) n n) n (intsF n L)) ∧ Hid (Kp [] w wr)) (fun x _ => n - (intOf x).toNat)
    case atStart => exact ⟨0, by omega, rfl, H2, R2, K2⟩
    case round =>
      obtain ⟨k, hk, rfl, hD, hR, hK⟩ := hrel
      by_cases hkn : k < n
      · have dk : decide ((k : Int) < (n : Int)) = true := by simp; omega
        have ww : IntKind.i64.wrap ((k : Int) + 1) = ((k + 1 : Nat) : Int) := by have := HN.out; rw [IntKind.wrap_i64]; omega
        have LE := hide (least_in hD.out k hkn)
        obtain ⟨_, g2, g3⟩ := GL.out
        have l1 := g2 k hkn
        have l2 := g3 k hkn
        clear g2 g3
        generalize hlk : L k = lk at *
        have HLK := hide hlk
        go_wp2_with fail
        refine LE.out.mono ?_
        rintro e w3 ⟨rfl, h3, k3⟩
        have r3 := k3.row hR.out (fun x hx => by simp [Value.ownBlock] at hx; subst hx; exact HG.out.1)
        obtain ⟨_, hpp, e1, _, _⟩ := row_cell r3 hkn
        injection hpp with hpp; injection hpp with hpp; subst hpp
        rw [intsF_get _ hkn, hlk] at e1
        have hl : lk < n := by omega
        obtain ⟨_, hpp, e2, _, _⟩ := row_cell r3 hl
        injection hpp with hpp; injection hpp with hpp; subst hpp
        rw [intsF_get _ hl, l2] at e2
        have SA := same_in h3 k lk hkn hl
        rw [hlk, l2, show decide (lk = lk) = true by simp] at SA
        have SA2 := hide SA
        have R3 := hide r3
        have K3 := hide (hK.out.trans k3 (fun z hz => .inr (HO.out z hz)))
        have HL2 := hide l2
        have dl : decide ((k : Int) < (lk : Int)) = false := by simp; omega
        have dl0 : decide ((lk : Int) < 0) = false := by simp
        have dl1 : decide (k < lk) = false := by simp; omega
        clear h3 k3 r3 SA LE hlk hD hR hK l2
        go_wp2_with fail
        refine SA2.out.mono ?_
        rintro e w4 ⟨rfl, h4, k4⟩
        have H4 := hide h4
        have R4 := hide (k4.row R3.out (fun x hx => by simp [Value.ownBlock] at hx; subst hx; exact HG.out.1))
        have K4 := hide (K3.out.trans k4 (fun z hz => .inr (HO.out z hz)))
        clear h4 k4 SA2 R3 K3 e1 e2
        go_wp2_with fail
        go_loopw [10] (fun x wr => ∃ j : Nat, j ≤ n + 7 ∧ x = .int .i64 (j : Int) ∧ Hid (DAt w.heap.size wr b own n L) ∧ Hid (wr.ownsRow g 3 1 (.slice (some ⟨g, 0, none⟩) n n) n (intsF n L)) ∧ Hid (Kp [] w wr)) (fun x _ => n + 7 - (intOf x).toNat)
        case atStart => exact ⟨0, by omega, rfl, H4, R4, K4⟩
        case round =>
          obtain ⟨j, hj, rfl, hD, hR, hK⟩ := hrel
          by_cases hjn : j < n
          · have dj : decide ((j : Int) < (n : Int)) = true := by simp; omega
            have wj : IntKind.i64.wrap ((j : Int) + 7) = ((j + 7 : Nat) : Int) := by have := HN.out; rw [IntKind.wrap_i64]; omega
            have SA := same_in hD.out.drew k j hkn hjn
            have r5 := hR.out
            obtain ⟨_, hpp, e1, _, _⟩ := row_cell r5 hkn
            injection hpp with hpp; injection hpp with hpp; subst hpp
            obtain ⟨_, hpp, e2, _, _⟩ := row_cell r5 hjn
            injection hpp with hpp; injection hpp with hpp; subst hpp
            rw [intsF_get _ hkn, HLK.out] at e1
            rw [intsF_get _ hjn] at e2
            rw [HLK.out] at SA
            have CE : Hid (∀ w', Kp own wr.drew w' → w'.cell? ⟨g, k, none⟩ = some (.int .i64 (lk : Int)) ∧ w'.cell? ⟨g, j, none⟩ = some (.int .i64 ((L j : Nat) : Int))) := by
              intro w' kk
              have hlt : g < wr.drew.heap.size := by
                have := r5.lt g (by simp [Value.ownBlock]); exact this.2
              exact ⟨by rw [World.cell?_of_block (w := wr.drew) (kk.block g hlt HG.out.1)]; exact e1, by rw [World.cell?_of_block (w := wr.drew) (kk.block g hlt HG.out.1)]; exact e2⟩
            have K0 : wr.drew.cell? ⟨g, k, none⟩ = some (.int .i64 (lk : Int)) ∧ wr.drew.cell? ⟨g, j, none⟩ = some (.int .i64 ((L j : Nat) : Int)) := ⟨e1, e2⟩
            have SA2 := hide SA
            have R5 := hide r5
            clear SA e1 e2 r5 hR HLK
            generalize L j = lj at *
            by_cases he : lk = lj
            · subst he
              have dt : decide (lk = lk) = true := by simp
              rw [dt] at SA2
              go_wp2_with fail
              go_region_held3 (fun w' => w'.cell? ⟨g, k, none⟩ = some (.int .i64 (lk : Int)) ∧ w'.cell? ⟨g, j, none⟩ = some (.int .i64 (lk : Int)))
                (with_reducible assumption)
                (first | (go_at_call 24; refine SA2.out.mono ?_; rintro e w6 ⟨rfl, h6, k6⟩; have C6 : w6.cell? ⟨g, k, none⟩ = some (.int .i64 (lk : Int)) ∧ w6.cell? ⟨g, j, none⟩ = some (.int .i64 (lk : Int)) := CE.out w6 k6; have H6 := hide h6; have K6 := hide k6; clear h6 k6))
              go_wp2_with fail
              go_roundw
              case rel => exact ⟨j + 7, by omega, rfl, H6, K6.out.row (show wr.drew.ownsRow _ _ _ _ _ _ from R5.out) (fun x hx => by simp [Value.ownBlock] at hx; subst hx; exact HG.out.1), (hK.out.trans (Kp.drewN [] wr 1) (by simp)).trans K6.out (fun z hz => .inr (HO.out z hz))⟩
              case measure => simp [intOf]; omega
            · have dt : decide (lk = lj) = false := by simpa using he
              have de : ((lk : Int) == (lj : Int)) = false := by simp; omega
              rw [dt] at SA2
              go_wp2_with fail
              go_region_held3 (fun w' => w'.cell? ⟨g, k, none⟩ = some (.int .i64 (lk : Int)) ∧ w'.cell? ⟨g, j, none⟩ = some (.int .i64 (lj : Int)))
                (with_reducible assumption)
                (first | (go_at_call 24; refine SA2.out.mono ?_; rintro e w6 ⟨rfl, h6, k6⟩; have C6 : w6.cell? ⟨g, k, none⟩ = some (.int .i64 (lk : Int)) ∧ w6.cell? ⟨g, j, none⟩ = some (.int .i64 (lj : Int)) := CE.out w6 k6; have H6 := hide h6; have K6 := hide k6; clear h6 k6))
              go_wp2_with fail
              go_roundw
              case rel => exact ⟨j + 7, by omega, rfl, H6, K6.out.row (show wr.drew.ownsRow _ _ _ _ _ _ from R5.out) (fun x hx => by simp [Value.ownBlock] at hx; subst hx; exact HG.out.1), (hK.out.trans (Kp.drewN [] wr 1) (by simp)).trans K6.out (fun z hz => .inr (HO.out z hz))⟩
              case measure => simp [intOf]; omega
          · have dj : decide ((j : Int) < (n : Int)) = false := by simp; omega
            go_wp2_with fail
            go_roundw
            case rel => exact ⟨k + 1, by omega, rfl, hD, hR, hK⟩
            case measure => simp [intOf]; omega
      · have : k = n := by omega
        subst this
        have dk : decide ((k : Int) < (k : Int)) = false := by simp
        go_wp2_with fail
        refine (works _).mono ?_
        rintro e w9 ⟨rfl, bw⟩
        have HW := hide bw
        clear bw
        go_wp2_with fail
        go_ret
        exact ⟨rfl, (hK.out.below (by simp) (Nat.le_refl _)).trans (HW.out.mono hK.out.size)⟩
  · rw [show decide (0 ≤ a0 ∧ a0 ≤ 300 ∧ len1 ≤ 300) = false by simpa using hs] at SM
    have wk := works w
    clear hs b0 hc1 hr1
    go_enter Try.func8, Try.ntmps8
    go_wp2_with fail
    refine SM.mono ?_
    rintro e w' ⟨rfl, rfl⟩
    go_wp2_with fail
    refine wk.mono ?_
    rintro e w2 ⟨rfl, bw⟩
    go_wp2_with fail
    go_ret
    exact ⟨rfl, bw⟩
theorem own : ownKnob Try.prog.godebug = none := by kernel_rfl
theorem laidOut : laidOutB Try.prog = true := by kernel_rfl
set_option maxRecDepth 100000 in
theorem lifted (os : Os) (started : os.Started) (H : Type) (enc : TypeId × Value → H) :
    ReturnsInHanded {} Try.checked os 8 .any (Rows.dsuLabelsSpec.pre6 enc Try.prog Try.f8 Rows.dsuLabelsRow.domain false) (Rows.dsuLabelsSpec.post enc Try.prog Try.f8 false true false false) := by
  refine returnsInHanded_of_change (C := Try.checked) own started (by kernel_rfl) Try.func8
    (ChangeSpec.witness6 (enc := enc) (C := Try.checked) false ⟨#[], #[.int .i64 0, .slice none 0 0], []⟩ 8 (by kernel_rfl) (by kernel_rfl) (by kernel_rfl) (by kernel_rfl)) ?_
  intro W base args ds gs before hval0 hW hcnd _
  have hval : ∀ (j : Nat) t v, Try.f8.params[j]? = some t → args[j]? = some v → Value.okWide Try.prog W .any base t v := hval0
  have hW' := hW
  obtain ⟨p, q, hA0, hV, rfl, hfz, hnd⟩ := hW
  have hA : DataW.TrodAll enc Try.prog W 0 (fun _ => true) true Try.f8.params.toList args.toList ds p := hA0
  rw [Try.params8] at hA hval
  obtain ⟨v0, vs0, d0, ds0, p0, q0, hargs, rfl, rfl, h0, r0⟩ := trodAll_cons hA
  obtain ⟨v1, vs1, d1, ds1, p1, q1, rfl, rfl, rfl, h1, r1⟩ := trodAll_cons r0
  obtain ⟨rfl, rfl, rfl⟩ := trodAll_nil r1
  obtain rfl : args = #[v0, v1] := by cases args; simp_all
  obtain ⟨rfl, rfl⟩ := trodVars_none hV
  have k0 := h0
  have lt0 : ∀ x ∈ p0, x.block < W.heap.size := by obtain ⟨m, hm⟩ := k0; exact DataW.trod_lt m _ _ _ hm
  have k1 := h1
  have lt1 : ∀ x ∈ p1, x.block < W.heap.size := by obtain ⟨m, hm⟩ := k1; exact DataW.trod_lt m _ _ _ hm
  obtain ⟨a0, rfl, _, _, w0⟩ := open_int Try.underlying3 (hval 0 3 v0 rfl rfl) h0
  obtain ⟨s1, len1, cap1, rfl⟩ := okWide_slice Try.underlying37 (hval 1 37 v1 rfl rfl)
  obtain ⟨V1, hc1, hr1⟩ := rows_in Try.underlying37 (flat_array Try.underlying40 Try.underlying3 (by kernel_rfl) (by kernel_rfl) : FlatI Try.prog 40 [.i64, .i64]) (by decide) h1
  clear hA0 hval0
  refine (walk a0 s1 len1 cap1 V1 W (bounds_i64 w0) hc1 hr1).mono fun e W' ⟨he, bel⟩ => ?_
  subst he
  exact ⟨_, rfl, _, _, _, [], _, [], hW', trodAll_mk1 (shut_bool Try.underlying4 _), (trodAll_cons_mk (Below.trod laidOut (by kernel_rfl) (of_decide_eq_true (by kernel_rfl)) k0 bel lt0) (trodAll_cons_mk (Below.trod laidOut (by kernel_rfl) (of_decide_eq_true (by kernel_rfl)) k1 bel lt1) trodAll_mk0)), rfl, bel.frame _, fun h => by cases h⟩
theorem holds : Rows.dsuLabelsRow.holds Try.pinned (OpenSpec.ofChange Rows.dsuLabelsSpec) :=
  OpenClaim.holds_of_wide 8 Try.f8 rfl rfl rfl rfl rfl rfl rfl ⟨rfl, rfl, rfl, rfl, rfl⟩ rfl rfl rfl rfl rfl (by kernel_rfl) Try.func8 (by kernel_rfl)
    (of_decide_eq_true (by kernel_rfl)) (by unfold Func.isWrapper; first | (rw [if_pos (by decide +kernel)]; kernel_rfl) | (rw [if_neg (by decide +kernel)]; exact ⟨rfl, rfl⟩))
    (fun os started H enc _ => lifted os started H enc)
theorem proved : Rows.DsuLabelsSaid := holds
end lawLabels
end Go.Proofs.Ytpidkfkjfcjniaa
