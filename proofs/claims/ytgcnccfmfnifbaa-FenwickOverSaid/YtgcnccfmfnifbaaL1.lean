/- FenwickOver holds: the total can be 2^63 - 1 and no more; what fails changes nothing; what is taken away can be added elsewhere. -/
import Derived.Test.YtgcnccfmfnifbaaFO
import Derived.Test.YtgcnccfmfnifbaaOp
import Derived.Test.YtgcnccfmfnifbaaRows
import Derived.Deep.CutRange
import Derived.StillTailTactics
set_option linter.unusedVariables false
set_option linter.unusedSimpArgs false
namespace Go.Proofs.Ytgcnccfmfnifbaa
open Go.RowKit
namespace lawOver
open Go.ChangeShapes Go.WideShapes Go.ChangeAt Go.RowKit Go.Joins
set_option maxRecDepth 100000 in
set_option maxHeartbeats 16000000 in
theorem walk (a0 : Int) (a1 : Int) (a2 : Int) (a3 : Int) (w : World) (b0 : 0 ≤ a0 ∧ a0 ≤ 255) (b1 : 0 ≤ a1 ∧ a1 ≤ 255) (b2 : 0 ≤ a2 ∧ a2 ≤ 255) (b3 : -9223372036854775808 ≤ a3 ∧ a3 ≤ 9223372036854775807) : Calls Try.prog 10 #[.int .u8 a0, .int .u8 a1, .int .u8 a2, .int .i64 a3] w fun e w' => e = .returned (.bool true) ∧ Below w.heap.size w w' := by
  have WK := hide works_t
  obtain ⟨r, hr, hr9⟩ : ∃ r : Nat, a0.tmod 50 = (r : Int) ∧ r ≤ 49 := ⟨(a0 % 50).toNat, by rw [Int.tmod_eq_emod_of_nonneg b0.1]; omega, by omega⟩
  obtain ⟨m, hm⟩ : ∃ m, m = r + 1 := ⟨_, rfl⟩
  have idx : ∀ a : Int, 0 ≤ a → ∃ i : Nat, a.tmod (m : Int) = (i : Int) ∧ i < m := fun a ha => by
    refine ⟨(a % (m : Int)).toNat, ?_, ?_⟩
    · rw [Int.tmod_eq_emod_of_nonneg ha]
      have := Int.emod_nonneg a (show (m : Int) ≠ 0 by omega); omega
    · have := Int.emod_lt_of_pos a (show (0 : Int) < (m : Int) by omega); have := Int.emod_nonneg a (show (m : Int) ≠ 0 by omega); omega
  obtain ⟨A, tA, hA⟩ := idx a1 b1.1
  obtain ⟨B, tB, hB⟩ := idx a2 b2.1
  have w0 : IntKind.i64.wrap a0 = a0 := by rw [IntKind.wrap_i64]; omega
  have w1 : IntKind.i64.wrap a1 = a1 := by rw [IntKind.wrap_i64]; omega
  have w2 : IntKind.i64.wrap a2 = a2 := by rw [IntKind.wrap_i64]; omega
  have wr : IntKind.i64.wrap (r : Int) = (r : Int) := by rw [IntKind.wrap_i64]; omega
  have wm : IntKind.i64.wrap (1 + (r : Int)) = (m : Int) := by rw [IntKind.wrap_i64]; omega
  have wA : IntKind.i64.wrap (A : Int) = (A : Int) := by rw [IntKind.wrap_i64]; omega
  have wB : IntKind.i64.wrap (B : Int) = (B : Int) := by rw [IntKind.wrap_i64]; omega
  have hmp : (0 : Int) < (m : Int) := by omega
  have NW := hide (new_t m (by omega) w)
  have o1 := min_nat A B
  have o2 := max_nat A B
  have HPQ := hide (show ∀ j, j = A ∨ j = B → min A B ≤ j ∧ j ≤ max A B from fun j hj => by omega)
  generalize min A B = p at *
  generalize max A B = q at *
  have key : ∃ D E : Int, 0 ≤ D ∧ D ≤ 9223372036854775807 ∧ ((decide (a3 < 0) = true ∧ IntKind.i64.wrap (a3 + 1) = E ∧ IntKind.i64.wrap (-E) = D) ∨ (decide (a3 < 0) = false ∧ D = a3)) := by
    by_cases g : a3 < 0
    · refine ⟨-(a3 + 1), a3 + 1, by omega, by omega, .inl ⟨by simpa using g, by rw [IntKind.wrap_i64]; omega, by rw [IntKind.wrap_i64]; omega⟩⟩
    · exact ⟨a3, 0, by omega, b3.2, .inr ⟨by simpa using g, rfl⟩⟩
  obtain ⟨D, E, hD0, hD1, hk⟩ := key
  obtain ⟨C1, C2, C3, C4, ⟨x1, y1⟩, ⟨x2, y2⟩, s2, nz, ⟨x3, y3⟩, ⟨x4, y4⟩, ⟨x5, y5⟩, ⟨x6, y6⟩, ⟨x7, y7⟩, x8⟩ := over_facts hA hB hD0 hD1
  have g1 : IntKind.i64.wrap (9223372036854775807 - D) = 9223372036854775807 - D := by rw [IntKind.wrap_i64]; omega
  have g2 : IntKind.i64.wrap (-D) = -D := by rw [IntKind.wrap_i64]; omega
  have AD := hide (fun (C : Nat → Int) W (own : List Nat) b (h : FAt w.heap.size W b m own C) (k : Kp [] w W) (i d : Int) (hd : I64 d) => add_t h i d hd k.size)
  have TT := hide (fun W (own : List Nat) b (h : FAt w.heap.size W b m own C2) => total_t h)
  have PP := hide (fun W (own : List Nat) b (h : FAt w.heap.size W b m own C2) => prefix_t h (m : Int))
  have GG := hide (fun W (own : List Nat) b (h : FAt w.heap.size W b m own C4) => get_t h 0)
  have FF := hide (fun W (own : List Nat) b (h : FAt w.heap.size W b m own C2) x => find_t h x)
  rw [clip_nat (Nat.le_refl _), s2] at PP
  rw [s2] at TT
  have A1 := hide (show I64 D by unfold I64; omega)
  have A2 := hide (show I64 (9223372036854775807 - D) by unfold I64; omega)
  have A6 := hide (show I64 (-D) by unfold I64; omega)
  have X1 := hide (And.intro x1 y1)
  have X2 := hide (And.intro x2 y2)
  have X3 := hide (And.intro x3 y3)
  have X4 := hide (And.intro x4 y4)
  have X5 := hide (And.intro x5 y5)
  have X6 := hide (And.intro x6 y6)
  have X7 := hide (And.intro x7 y7)
  have X8 := hide x8
  have HS2 := hide s2
  have HNZ := hide nz
  have HM := hide hmp
  clear b0 b1 b2 b3 idx hr9 hm x1 y1 x2 y2 x3 y3 x4 y4 x5 y5 x6 y6 x7 y7 x8 s2 nz hA hB hD0 hD1
  rcases hk with ⟨k1, k2, k3⟩ | ⟨k1, rfl⟩
  all_goals
    go_enter Try.func10, Try.ntmps10
    go_wp2_with fail
    refine NW.out.mono ?_
    rintro e w1 ⟨rfl, f1, q1⟩
    obtain ⟨b, hb⟩ : ∃ b, b = w.heap.size + 1 := ⟨_, rfl⟩
    obtain ⟨own, hown⟩ : ∃ own, own = [w.heap.size + 1, w.heap.size] := ⟨_, rfl⟩
    have OW := hide (show ∀ x ∈ own, w.heap.size ≤ x by rw [hown]; simp)
    rw [← hown, ← hb] at f1
    rw [← hb]
    have F1 := hide f1
    have K1 := hide q1
    clear f1 q1 hb hown
    go_wp2_with fail
    go_quiet (fail)
    have F2 := hide (F1.out.keep0 (Kp.drewN [] w1 nq))
    have K2 := hide (K1.out.trans0 (Kp.drewN [] w1 nq))
    generalize w1.drewN nq = w2 at *
    go_wp2_with fail
    have AA := hide (AD.out _ _ _ _ F2.out K2.out (A : Int) D A1.out)
    rw [X1.out.1, X1.out.2] at AA
    refine AA.out.mono ?_
    rintro e w3 ⟨rfl, f, k⟩
    have F3 := hide f
    have K3 := hide (K2.out.trans k (fun z hz => .inr (OW.out z hz)))
    clear f k AA F1 F2
    go_wp2_with fail
    have AA := hide (AD.out _ _ _ _ F3.out K3.out (B : Int) _ A2.out)
    rw [X2.out.1, X2.out.2] at AA
    refine AA.out.mono ?_
    rintro e w4 ⟨rfl, f, k⟩
    have F4 := hide f
    have K4 := hide (K3.out.trans k (fun z hz => .inr (OW.out z hz)))
    clear f k AA F3
    go_wp2_with fail
    refine (TT.out _ _ _ F4.out).mono ?_
    rintro e w5 ⟨rfl, rfl⟩
    go_wp2_with fail
    have AA := hide (AD.out _ _ _ _ F4.out K4.out (A : Int) 1 (by unfold I64; omega))
    rw [X3.out.1, X3.out.2] at AA
    refine AA.out.mono ?_
    rintro e w5 ⟨rfl, f, k⟩
    have F5 := hide f
    have K5 := hide (K4.out.trans k (fun z hz => .inr (OW.out z hz)))
    clear f k AA F4
    go_wp2_with fail
    have AA := hide (AD.out _ _ _ _ F5.out K5.out (B : Int) 9223372036854775807 (by unfold I64; omega))
    rw [X4.out.1, X4.out.2] at AA
    refine AA.out.mono ?_
    rintro e w6 ⟨rfl, f, k⟩
    have F6 := hide f
    have K6 := hide (K5.out.trans k (fun z hz => .inr (OW.out z hz)))
    clear f k AA F5
    go_wp2_with fail
    have AA := hide (AD.out _ _ _ _ F6.out K6.out (m : Int) 1 (by unfold I64; omega))
    rw [X5.out.1, X5.out.2] at AA
    refine AA.out.mono ?_
    rintro e w7 ⟨rfl, f, k⟩
    have F7 := hide f
    have K7 := hide (K6.out.trans k (fun z hz => .inr (OW.out z hz)))
    clear f k AA F6
    go_wp2_with fail
    refine (TT.out _ _ _ F7.out).mono ?_
    rintro e w8 ⟨rfl, rfl⟩
    go_wp2_with fail
    refine (PP.out _ _ _ F7.out).mono ?_
    rintro e w8 ⟨rfl, k⟩
    have F8 := hide (F7.out.keep0 k)
    have K8 := hide (K7.out.trans0 k)
    clear k F7
    go_wp2_with fail
    refine (FF.out _ _ _ F8.out _).mono ?_
    rintro e w9 ⟨f, k⟩
    have F9 := hide (F8.out.keep0 k)
    have K9 := hide (K8.out.trans0 k)
    obtain ⟨j, hj, rfl⟩ : ∃ j : Nat, (j = A ∨ j = B) ∧ e = .returned (.tuple #[.int .i64 (j : Int), .bool true]) := by
      rcases f with ⟨_, _, j, _, h3, h4, rfl⟩ | ⟨hn, _⟩
      · refine ⟨j, ?_, rfl⟩
        by_cases gA : j = A
        · exact .inl gA
        · by_cases gB : j = B
          · exact .inr gB
          · have z := HNZ.out j gA gB
            have e : sumS C2 (j + 1) = sumS C2 j + C2 j := rfl
            omega
      · exact (hn ⟨by decide, by rw [HS2.out]; decide⟩).elim
    obtain ⟨jp, jq⟩ := HPQ.out j hj
    have d1 : decide ((j : Int) < (p : Int)) = false := by simp; omega
    have d2 : decide ((q : Int) < (j : Int)) = false := by simp; omega
    have d1' : decide (j < p) = false := by simp; omega
    have d2' : decide (q < j) = false := by simp; omega
    clear f k F8 hj
    go_wp2_with fail
    refine (FF.out _ _ _ F9.out _).mono ?_
    rintro e w10 ⟨f, k⟩
    obtain rfl := find_no f (by rw [HS2.out]; decide)
    have F10 := hide (F9.out.keep0 k)
    have K10 := hide (K9.out.trans0 k)
    clear f k F9 jp jq
    go_wp2_with fail
    have AA := hide (AD.out _ _ _ _ F10.out K10.out (A : Int) _ A6.out)
    rw [X6.out.1, X6.out.2] at AA
    refine AA.out.mono ?_
    rintro e w11 ⟨rfl, f, k⟩
    have F11 := hide f
    have K11 := hide (K10.out.trans k (fun z hz => .inr (OW.out z hz)))
    clear f k AA F10
    go_wp2_with fail
    have AA := hide (AD.out _ _ _ _ F11.out K11.out 0 _ A1.out)
    rw [X7.out.1, X7.out.2] at AA
    refine AA.out.mono ?_
    rintro e w12 ⟨rfl, f, k⟩
    have F12 := hide f
    have K12 := hide (K11.out.trans k (fun z hz => .inr (OW.out z hz)))
    clear f k AA F11
    go_wp2_with fail
    have AA := hide (AD.out _ _ _ _ F12.out K12.out 0 (-9223372036854775807) (by unfold I64; omega))
    rcases X8.out with x8 | ⟨x8, y8, z8⟩
    · rw [x8] at AA
      refine AA.out.mono ?_
      rintro e w13 ⟨rfl, f, k⟩
      have K13 := hide (K12.out.trans k (fun z hz => .inr (OW.out z hz)))
      clear f k AA F12 x8
      go_wp2_with fail
      refine (WK.out _).mono ?_
      rintro e w14 ⟨rfl, k⟩
      have K14 := hide (K13.out.trans0 k)
      clear k
      go_wp2_with fail
      go_ret
      exact ⟨rfl, K14.out.below (by simp) (Nat.le_refl _)⟩
    · rw [x8, y8] at AA
      refine AA.out.mono ?_
      rintro e w13 ⟨rfl, f, k⟩
      have F13 := hide f
      have K13 := hide (K12.out.trans k (fun z hz => .inr (OW.out z hz)))
      have g0 := getN (C := C4) (n := m) (i := 0) (by have := HM.out; omega)
      have GT := hide (GG.out _ _ _ f)
      rw [show ((0 : Int)) = ((0 : Nat) : Int) from rfl, g0] at GT
      have zz : decide (C4 0 = 9223372036854775807) = false := by simpa using z8
      generalize C4 0 = c0 at *
      clear f k AA F12 F13 x8 y8 g0
      go_wp2_with fail
      refine GT.out.mono ?_
      rintro e w14 ⟨rfl, k⟩
      have K14 := hide (K13.out.trans0 k)
      clear k
      go_wp2_with fail
      refine (WK.out _).mono ?_
      rintro e w15 ⟨rfl, k⟩
      have K15 := hide (K14.out.trans0 k)
      clear k
      go_wp2_with fail
      go_ret
      exact ⟨rfl, K15.out.below (by simp) (Nat.le_refl _)⟩
theorem own : ownKnob Try.prog.godebug = none := by kernel_rfl
theorem laidOut : laidOutB Try.prog = true := by kernel_rfl
set_option maxRecDepth 100000 in
theorem lifted (os : Os) (started : os.Started) (H : Type) (enc : TypeId × Value → H) :
    ReturnsInHanded {} Try.checked os 10 .any (Rows.fenwickOverSpec.pre6 enc Try.prog Try.f10 Rows.fenwickOverRow.domain false) (Rows.fenwickOverSpec.post enc Try.prog Try.f10 false true false false) := by
  refine returnsInHanded_of_change (C := Try.checked) own started (by kernel_rfl) Try.func10
    (ChangeSpec.witness6 (enc := enc) (C := Try.checked) false ⟨#[], #[.int .u8 0, .int .u8 0, .int .u8 0, .int .i64 0], []⟩ 8 (by kernel_rfl) (by kernel_rfl) (by kernel_rfl) (by kernel_rfl)) ?_
  intro W base args ds gs before hval0 hW hcnd _
  have hval : ∀ (j : Nat) t v, Try.f10.params[j]? = some t → args[j]? = some v → Value.okWide Try.prog W .any base t v := hval0
  have hW' := hW
  obtain ⟨p, q, hA0, hV, rfl, hfz, hnd⟩ := hW
  have hA : DataW.TrodAll enc Try.prog W 0 (fun _ => true) true Try.f10.params.toList args.toList ds p := hA0
  rw [Try.params10] at hA hval
  obtain ⟨v0, vs0, d0, ds0, p0, q0, hargs, rfl, rfl, h0, r0⟩ := trodAll_cons hA
  obtain ⟨v1, vs1, d1, ds1, p1, q1, rfl, rfl, rfl, h1, r1⟩ := trodAll_cons r0
  obtain ⟨v2, vs2, d2, ds2, p2, q2, rfl, rfl, rfl, h2, r2⟩ := trodAll_cons r1
  obtain ⟨v3, vs3, d3, ds3, p3, q3, rfl, rfl, rfl, h3, r3⟩ := trodAll_cons r2
  obtain ⟨rfl, rfl, rfl⟩ := trodAll_nil r3
  obtain rfl : args = #[v0, v1, v2, v3] := by cases args; simp_all
  obtain ⟨rfl, rfl⟩ := trodVars_none hV
  have k0 := h0
  have lt0 : ∀ x ∈ p0, x.block < W.heap.size := by obtain ⟨m, hm⟩ := k0; exact DataW.trod_lt m _ _ _ hm
  have k1 := h1
  have lt1 : ∀ x ∈ p1, x.block < W.heap.size := by obtain ⟨m, hm⟩ := k1; exact DataW.trod_lt m _ _ _ hm
  have k2 := h2
  have lt2 : ∀ x ∈ p2, x.block < W.heap.size := by obtain ⟨m, hm⟩ := k2; exact DataW.trod_lt m _ _ _ hm
  have k3 := h3
  have lt3 : ∀ x ∈ p3, x.block < W.heap.size := by obtain ⟨m, hm⟩ := k3; exact DataW.trod_lt m _ _ _ hm
  obtain ⟨a0, rfl, _, _, w0⟩ := open_int Try.underlying5 (hval 0 5 v0 rfl rfl) h0
  obtain ⟨a1, rfl, _, _, w1⟩ := open_int Try.underlying5 (hval 1 5 v1 rfl rfl) h1
  obtain ⟨a2, rfl, _, _, w2⟩ := open_int Try.underlying5 (hval 2 5 v2 rfl rfl) h2
  obtain ⟨a3, rfl, _, _, w3⟩ := open_int Try.underlying2 (hval 3 2 v3 rfl rfl) h3
  clear hA0 hval0
  refine (walk a0 a1 a2 a3 W (bounds_u8 w0) (bounds_u8 w1) (bounds_u8 w2) (bounds_i64 w3)).mono fun e W' ⟨he, bel⟩ => ?_
  subst he
  exact ⟨_, rfl, _, _, _, [], _, [], hW', trodAll_mk1 (shut_bool Try.underlying4 _), (trodAll_cons_mk (Below.trod laidOut (by kernel_rfl) (of_decide_eq_true (by kernel_rfl)) k0 bel lt0) (trodAll_cons_mk (Below.trod laidOut (by kernel_rfl) (of_decide_eq_true (by kernel_rfl)) k1 bel lt1) (trodAll_cons_mk (Below.trod laidOut (by kernel_rfl) (of_decide_eq_true (by kernel_rfl)) k2 bel lt2) (trodAll_cons_mk (Below.trod laidOut (by kernel_rfl) (of_decide_eq_true (by kernel_rfl)) k3 bel lt3) trodAll_mk0)))), rfl, bel.frame _, fun h => by cases h⟩
theorem holds : Rows.fenwickOverRow.holds Try.pinned (OpenSpec.ofChange Rows.fenwickOverSpec) :=
  OpenClaim.holds_of_wide 10 Try.f10 rfl rfl rfl rfl rfl rfl rfl ⟨rfl, rfl, rfl, rfl, rfl⟩ rfl rfl rfl rfl rfl (by kernel_rfl) Try.func10 (by kernel_rfl)
    (of_decide_eq_true (by kernel_rfl)) (by unfold Func.isWrapper; first | (rw [if_pos (by decide +kernel)]; kernel_rfl) | (rw [if_neg (by decide +kernel)]; exact ⟨rfl, rfl⟩))
    (fun os started H enc _ => lifted os started H enc)
theorem proved : Rows.FenwickOverSaid := holds
end lawOver
end Go.Proofs.Ytgcnccfmfnifbaa
