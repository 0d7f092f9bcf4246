/- HistoBuckets holds: the bucket of a number lies between the bounds beside it: the bound before it is not greater than the number, the one after it is. -/
import Derived.Test.YtenoalfjobghnaaHJ
import Derived.Test.YtenoalfjobghnaaOp
import Derived.Test.YtenoalfjobghnaaRows
import Derived.Deep.CutRange
set_option linter.unusedVariables false
set_option linter.unusedSimpArgs false
namespace Go.Proofs.Ytenoalfjobghnaa
open Go.RowKit
theorem bk_spec {V : Nat → Int} {x : Int} : ∀ m, Inc V m → (∀ i, i < bk V x m → V i ≤ x) ∧ ∀ i, bk V x m ≤ i → i < m → x < V i := by
  intro m
  induction m with
  | zero => intro _; exact ⟨fun i hi => absurd hi (by simp [bk]), fun i _ hi => absurd hi (by omega)⟩
  | succ m ih =>
    intro inc
    have h := ih (fun i j a b => inc i j a (by omega))
    by_cases e : V m ≤ x
    · have all : ∀ i, i < m + 1 → V i ≤ x := fun i hi => by
        by_cases q : i = m
        · subst q; exact e
        · exact Int.le_trans (Int.le_of_lt (inc i m (by omega) (by omega))) e
      rw [bk_all (m + 1) all]
      exact ⟨all, fun i a b => absurd a (by omega)⟩
    · simp only [bk, if_neg e, Nat.add_zero]
      refine ⟨h.1, fun i a b => ?_⟩
      by_cases q : i = m
      · subst q; omega
      · exact h.2 i a (by omega)
theorem rd_of {w : World} {s : Option Addr} {n : Nat} {V : Nat → Nat → Int} (h : RowsI w s [.i64] n V) : Rd1 w s n (fun i => V i 0) := by
  by_cases hn : n = 0
  · exact .inl hn
  · obtain ⟨b, off, rfl, hb, _⟩ := rowsI_one h (show 0 < n by omega)
    refine .inr ⟨b, off, rfl, hb, fun i hi => ?_⟩
    obtain ⟨b', off', he, _, hc⟩ := rowsI_one h hi
    injection he with he; injection he with e1 e2; subst e1; subst e2
    exact hc.1
namespace lawBuckets
open Go.ChangeShapes Go.WideShapes Go.ChangeAt Go.RowKit Go.Joins
set_option maxRecDepth 100000 in
set_option maxHeartbeats 8000000 in
theorem walk (s0 : Option Addr) (len0 cap0 : Nat) (V0 : Nat → Nat → Int) (a1 : Int) (w : World) (hc0 : len0 ≤ cap0 ∧ cap0 ≤ maxLen) (hr0 : RowsI w s0 [.i64] len0 V0) (b1 : -9223372036854775808 ≤ a1 ∧ a1 ≤ 9223372036854775807) : Calls Try.prog 9 #[.slice s0 len0 cap0, .int .i64 a1] w fun e w' => e = .returned (.bool true) ∧ Below w.heap.size w w' := by
  have R := rd_of hr0
  generalize hV : (fun i => V0 i 0) = V at R
  clear hr0 hV b1
  by_cases hl : 1024 < len0
  · have N := hide (new_long (w := w) (p := s0) (c := cap0) hl)
    clear R hl hc0
    go_enter Try.func9, Try.ntmps9
    go_wp2_with fail
    refine N.out.mono ?_
    rintro e w' ⟨rfl, rfl⟩
    go_wp2_with fail
    refine (works _).mono ?_
    rintro e w2 ⟨rfl, bw⟩
    have HW := hide bw
    clear bw
    go_wp2_with fail
    go_ret
    exact ⟨rfl, HW.out⟩
  · by_cases inc : Inc V len0
    · have N := hide (new_t (c := cap0) R (by omega) inc)
      have SP := hide (bk_spec (x := a1) len0 inc)
      have HI := hide inc
      have HR := hide R
      have HL := hide (show len0 ≤ 1024 by omega)
      clear R hl inc hc0
      go_enter Try.func9, Try.ntmps9
      go_wp2_with fail
      refine N.out.mono ?_
      rintro e w1 ⟨b, vB, vC, rfl, M, k⟩
      have BU := hide (bucket_t M HL.out HI.out a1)
      have K := hide k
      clear M k N
      go_wp2_with fail
      refine BU.out.mono ?_
      rintro e w2 ⟨rfl, k⟩
      have K2 := hide (K.out.trans0 k)
      have RR := hide (HR.out.below K2.out)
      have rb := bk_le V a1 len0
      clear k K BU HR HI
      obtain ⟨r, hr⟩ : ∃ r, r = bk V a1 len0 := ⟨_, rfl⟩
      rw [← hr] at SP rb ⊢
      clear hr
      have d0 : decide ((r : Int) < 0) = false := by simp
      have d1 : decide ((len0 : Int) < (r : Int)) = false := by simp; omega
      have d1' : decide (len0 < r) = false := by simp; omega
      by_cases r0 : r = 0
      · subst r0
        by_cases rn : len0 = 0
        · subst rn
          clear RR SP
          go_wp2_with fail
          refine (works _).mono ?_
          rintro e w3 ⟨rfl, bw⟩
          have HW := hide bw
          clear bw
          go_wp2_with fail
          go_ret
          exact ⟨rfl, (K2.out.below (by simp) (Nat.le_refl _)).trans (HW.out.mono K2.out.size)⟩
        · have dn : ((0 : Int) == (len0 : Int)) = false := by simp; omega
          have dn' : decide (0 = len0) = false := by simp; omega
          rcases RR.out with h0 | ⟨g, off, rfl, hg, hc⟩
          · omega
          · have e2 := hc 0 (by omega)
            have v2 := SP.out.2 0 (by omega) (by omega)
            have dv : decide (a1 < V 0) = true := by simp [v2]
            have e3 : w2.cell? ⟨g, off, none⟩ = some (.int .i64 (V 0)) := e2
            have p0 : 0 < len0 := by omega
            have p1 : (0 : Int) < (len0 : Int) := by omega
            clear hc v2 SP RR hg
            generalize V 0 = y at *
            go_wp2_with fail
            refine (works _).mono ?_
            rintro e w3 ⟨rfl, bw⟩
            have HW := hide bw
            clear bw
            go_wp2_with fail
            go_ret
            exact ⟨rfl, (K2.out.below (by simp) (Nat.le_refl _)).trans (HW.out.mono K2.out.size)⟩
      · obtain ⟨q, hq⟩ : ∃ q, q = r - 1 := ⟨_, rfl⟩
        have ws : IntKind.i64.wrap ((r : Int) - 1) = (q : Int) := by have := HL.out; rw [IntKind.wrap_i64]; omega
        have hb2 : (q : Int) < (len0 : Int) := by omega
        have hb3 : q < len0 := by omega
        have d2 : ((r : Int) == 0) = false := by simp; omega
        have d2' : (r == 0) = false := by simp; omega
        have d2'' : decide (r = 0) = false := by simp; omega
        rcases RR.out with h0 | ⟨g, off, rfl, hg, hc⟩
        · omega
        · have e1 := hc q (by omega)
          have v1 := SP.out.1 q (by omega)
          have dv1 : decide (V q ≤ a1) = true := by simp [v1]
          have HQ := hide hq
          by_cases rn : r = len0
          · have d3 : ((r : Int) == (len0 : Int)) = true := by simp; omega
            have d3' : (r == len0) = true := by simp; omega
            have d3'' : decide (r = len0) = true := by simp; omega
            clear hc v1 SP RR hg hq
            generalize V q = y at *
            have RN := hide rn
            clear rn
            go_wp2_with fail
            refine (works _).mono ?_
            rintro e w3 ⟨rfl, bw⟩
            have HW := hide bw
            clear bw
            go_wp2_with fail
            go_ret
            exact ⟨rfl, (K2.out.below (by simp) (Nat.le_refl _)).trans (HW.out.mono K2.out.size)⟩
          · have d3 : ((r : Int) == (len0 : Int)) = false := by simp; omega
            have d3' : (r == len0) = false := by simp; omega
            have d3'' : decide (r = len0) = false := by simp; omega
            have e2 := hc r (by omega)
            have v2 := SP.out.2 r (by omega) (by omega)
            have dv2 : decide (a1 < V r) = true := by simp [v2]
            have hb1 : (r : Int) < (len0 : Int) := by omega
            have hb4 : r < len0 := by omega
            clear hc v1 v2 SP RR hg hq
            generalize V q = y at *
            generalize V r = y2 at *
            go_wp2_with fail
            refine (works _).mono ?_
            rintro e w3 ⟨rfl, bw⟩
            have HW := hide bw
            clear bw
            go_wp2_with fail
            go_ret
            exact ⟨rfl, (K2.out.below (by simp) (Nat.le_refl _)).trans (HW.out.mono K2.out.size)⟩
    · have N := hide (new_down (c := cap0) R (by omega) inc)
      clear R hl hc0 inc
      go_enter Try.func9, Try.ntmps9
      go_wp2_with fail
      refine N.out.mono ?_
      rintro e w1 ⟨rfl, k⟩
      have K := hide k
      clear k
      go_wp2_with fail
      refine (works _).mono ?_
      rintro e w2 ⟨rfl, bw⟩
      have HW := hide bw
      clear bw
      go_wp2_with fail
      go_ret
      exact ⟨rfl, (K.out.below (by simp) (Nat.le_refl _)).trans (HW.out.mono K.out.size)⟩
theorem own : ownKnob Try.prog.godebug = none := by kernel_rfl
theorem laidOut : laidOutB Try.prog = true := by kernel_rfl
set_option maxRecDepth 100000 in
theorem lifted (os : Os) (started : os.Started) (H : Type) (enc : TypeId × Value → H) :
    ReturnsInHanded {} Try.checked os 9 .any (Rows.histoBucketsSpec.pre6 enc Try.prog Try.f9 Rows.histoBucketsRow.domain false) (Rows.histoBucketsSpec.post enc Try.prog Try.f9 false true false false) := by
  refine returnsInHanded_of_change (C := Try.checked) own started (by kernel_rfl) Try.func9
    (ChangeSpec.witness6 (enc := enc) (C := Try.checked) false ⟨#[], #[.slice none 0 0, .int .i64 0], []⟩ 8 (by kernel_rfl) (by kernel_rfl) (by kernel_rfl) (by kernel_rfl)) ?_
  intro W base args ds gs before hval0 hW hcnd _
  have hval : ∀ (j : Nat) t v, Try.f9.params[j]? = some t → args[j]? = some v → Value.okWide Try.prog W .any base t v := hval0
  have hW' := hW
  obtain ⟨p, q, hA0, hV, rfl, hfz, hnd⟩ := hW
  have hA : DataW.TrodAll enc Try.prog W 0 (fun _ => true) true Try.f9.params.toList args.toList ds p := hA0
  rw [Try.params9] at hA hval
  obtain ⟨v0, vs0, d0, ds0, p0, q0, hargs, rfl, rfl, h0, r0⟩ := trodAll_cons hA
  obtain ⟨v1, vs1, d1, ds1, p1, q1, rfl, rfl, rfl, h1, r1⟩ := trodAll_cons r0
  obtain ⟨rfl, rfl, rfl⟩ := trodAll_nil r1
  obtain rfl : args = #[v0, v1] := by cases args; simp_all
  obtain ⟨rfl, rfl⟩ := trodVars_none hV
  have k0 := h0
  have lt0 : ∀ x ∈ p0, x.block < W.heap.size := by obtain ⟨m, hm⟩ := k0; exact DataW.trod_lt m _ _ _ hm
  have k1 := h1
  have lt1 : ∀ x ∈ p1, x.block < W.heap.size := by obtain ⟨m, hm⟩ := k1; exact DataW.trod_lt m _ _ _ hm
  obtain ⟨s0, len0, cap0, rfl⟩ := okWide_slice Try.underlying22 (hval 0 22 v0 rfl rfl)
  obtain ⟨V0, hc0, hr0⟩ := rows_in Try.underlying22 (flat_int Try.underlying2 (by kernel_rfl)) (by decide) h0
  obtain ⟨a1, rfl, _, _, w1⟩ := open_int Try.underlying2 (hval 1 2 v1 rfl rfl) h1
  clear hA0 hval0
  refine (walk s0 len0 cap0 V0 a1 W hc0 hr0 (bounds_i64 w1)).mono fun e W' ⟨he, bel⟩ => ?_
  subst he
  exact ⟨_, rfl, _, _, _, [], _, [], hW', trodAll_mk1 (shut_bool Try.underlying4 _), (trodAll_cons_mk (Below.trod laidOut (by kernel_rfl) (of_decide_eq_true (by kernel_rfl)) k0 bel lt0) (trodAll_cons_mk (Below.trod laidOut (by kernel_rfl) (of_decide_eq_true (by kernel_rfl)) k1 bel lt1) trodAll_mk0)), rfl, bel.frame _, fun h => by cases h⟩
theorem holds : Rows.histoBucketsRow.holds Try.pinned (OpenSpec.ofChange Rows.histoBucketsSpec) :=
  OpenClaim.holds_of_wide 9 Try.f9 rfl rfl rfl rfl rfl rfl rfl ⟨rfl, rfl, rfl, rfl, rfl⟩ rfl rfl rfl rfl rfl (by kernel_rfl) Try.func9 (by kernel_rfl)
    (of_decide_eq_true (by kernel_rfl)) (by unfold Func.isWrapper; first | (rw [if_pos (by decide +kernel)]; kernel_rfl) | (rw [if_neg (by decide +kernel)]; exact ⟨rfl, rfl⟩))
    (fun os started H enc _ => lifted os started H enc)
theorem proved : Rows.HistoBucketsSaid := holds
end lawBuckets
end Go.Proofs.Ytenoalfjobghnaa
