/- DsuCopies: the law answers true at every number, every list of pairs (at most 300 of each; else the example alone) and every two numbers. -/
import Derived.Test.YtpidkfkjfcjniaaG
import Derived.Test.YtpidkfkjfcjniaaOp
import Derived.Test.YtpidkfkjfcjniaaRows
import Derived.Deep.CutRange
set_option linter.unusedVariables false
set_option linter.unusedSimpArgs false
namespace Go.Proofs.Ytpidkfkjfcjniaa
open Go.RowKit
namespace lawCopies
open Go.ChangeShapes Go.WideShapes Go.ChangeAt Go.RowKit Go.Joins
set_option maxRecDepth 100000 in
set_option maxHeartbeats 16000000 in
theorem walk (a0 : Int) (s1 : Option Addr) (len1 cap1 : Nat) (V1 : Nat → Nat → Int) (z2_0 : Int) (z2_1 : Int) (w : World) (b0 : -9223372036854775808 ≤ a0 ∧ a0 ≤ 9223372036854775807) (hc1 : len1 ≤ cap1 ∧ cap1 ≤ maxLen) (hr1 : RowsI w s1 [.i64, .i64] len1 V1) (b2_0 : -9223372036854775808 ≤ z2_0 ∧ z2_0 ≤ 9223372036854775807) (b2_1 : -9223372036854775808 ≤ z2_1 ∧ z2_1 ≤ 9223372036854775807) : Calls Try.prog 10 #[.int .i64 a0, .slice s1 len1 cap1, .agg #[.int .i64 z2_0, .int .i64 z2_1]] w fun e w' => e = .returned (.bool true) ∧ Below w.heap.size w w' := by
  have bel : Below w.heap.size w (w.alloc (.cells #[.int .i64 z2_0, .int .i64 z2_1] 40)) := (Below.refl _ _).alloc (Nat.le_refl _) _
  have cz : (w.alloc (.cells #[.int .i64 z2_0, .int .i64 z2_1] 40)).cell? ⟨w.heap.size, 0, none⟩ = some (.int .i64 z2_0) ∧ (w.alloc (.cells #[.int .i64 z2_0, .int .i64 z2_1] 40)).cell? ⟨w.heap.size, 1, none⟩ = some (.int .i64 z2_1) := by simp [go_sem]
  have sz : (w.alloc (.cells #[.int .i64 z2_0, .int .i64 z2_1] 40)).heap.size = w.heap.size + 1 := by simp
  have SM := small_t a0 s1 len1 cap1 (w.alloc (.cells #[.int .i64 z2_0, .int .i64 z2_1] 40)) (by omega)
  have hrw := hr1.below bel (Nat.le_refl _)
  by_cases hs : 0 ≤ a0 ∧ a0 ≤ 300 ∧ len1 ≤ 300
  · rw [show decide (0 ≤ a0 ∧ a0 ≤ 300 ∧ len1 ≤ 300) = true by simpa using hs] at SM
    obtain ⟨n, rfl⟩ : ∃ n : Nat, a0 = (n : Int) := ⟨a0.toNat, by omega⟩
    have HN := hide (show n ≤ 300 by omega)
    have UT := hide (united_t n (by omega) s1 len1 cap1 V1 _ hrw (by omega))
    have wn : IntKind.i64.wrap ((n : Int) - 1) = (n : Int) - 1 := by rw [IntKind.wrap_i64]; omega
    clear hs b0 hc1 hr1 hrw b2_0 b2_1
    go_enter Try.func10, Try.ntmps10
    go_wp2_with fail
    generalize hW : w.alloc (.cells #[.int .i64 z2_0, .int .i64 z2_1] 40) = W at *
    clear hW
    have BW := hide bel
    have CZ := hide cz
    have SZ := hide sz
    clear bel cz sz
    refine SM.mono ?_
    rintro e w' ⟨rfl, rfl⟩
    go_wp2_with fail
    refine UT.out.mono ?_
    rintro e w1 ⟨b, own, L, rfl, h1, _, ho, k1⟩
    have HS1 := hide h1
    have HO := hide (fun x hx => (h1.lt x hx).2)
    have HOW := hide ho
    have KW1 := hide k1
    clear h1 ho k1 UT SM
    go_wp2_with fail
    refine (copy_t HS1.out).mono ?_
    rintro e w2 ⟨d, own', rfl, h2, k2⟩
    have HD := hide (show (∀ x ∈ own, x ∉ own') ∧ (∀ x ∈ own', x ∉ own) from ⟨fun x hx hy => by have := (h2.lt x hy).1; have := HO.out x hx; omega, fun x hy hx => by have := (h2.lt x hy).1; have := HO.out x hx; omega⟩)
    have HOC := hide (show ∀ x ∈ own', W.heap.size ≤ x from fun x hx => by have := (h2.lt x hx).1; have := KW1.out.size; omega)
    have HC2 := hide (show DAt W.heap.size w2 d own' n L by
      obtain ⟨vP, vS, P, Z, M, q⟩ := h2
      exact ⟨vP, vS, P, Z, ⟨M.blk, row_mono M.P KW1.out.size, row_mono M.S KW1.out.size, by have := M.ge; have := KW1.out.size; omega, M.ap⟩, q⟩)
    have HS2 := hide (HS1.out.keep k2 (by simp))
    have KW2 := hide (KW1.out.trans k2 (by simp))
    clear h2 k2 KW1 HO
    go_wp2_with fail
    refine (labels_t HC2.out).mono ?_
    rintro e w3 ⟨rfl, r3, h3, k3⟩
    have HC3 := hide h3
    have HS3 := hide (HS2.out.keep k3 HD.out.1)
    have KW3 := hide (KW2.out.trans k3 (fun z hz => .inr (HOC.out z hz)))
    have AN := hide (show w2.heap.size ∉ own ∧ w2.heap.size ∉ own' from ⟨fun hm => by have := (HS2.out.lt _ hm).2; omega, fun hm => by have := (HC2.out.lt _ hm).2; omega⟩)
    have A_3 := hide r3
    clear r3 h3 k3 HC2 HS2 KW2
    generalize w2.heap.size = gA at *
    go_wp2_with fail
    refine (labels_t HS3.out).mono ?_
    rintro e w4 ⟨rfl, r4, h4, k4⟩
    have HS4 := hide h4
    have HC4 := hide (HC3.out.keep k4 HD.out.2)
    have KW4 := hide (KW3.out.trans k4 (fun z hz => .inr (HOW.out z hz)))
    have A_4 := hide (k4.row A_3.out (fun x hx => by simp [Value.ownBlock] at hx; subst hx; exact AN.out.1))
    have EN := hide (show w3.heap.size ∉ own ∧ w3.heap.size ∉ own' from ⟨fun hm => by have := (HS3.out.lt _ hm).2; omega, fun hm => by have := (HC3.out.lt _ hm).2; omega⟩)
    have E_4 := hide r4
    clear r4 h4 k4 HS3 HC3 KW3 A_3
    generalize w3.heap.size = gE at *
    go_wp2_with fail
    refine (same_rows w4 n _ _ _ _ _ _ _ A_4.out E_4.out (by have := HN.out; omega)).mono ?_
    rintro e w5 ⟨rfl, k5⟩
    have HS5 := hide (HS4.out.keep k5 (by simp))
    have HC5 := hide (HC4.out.keep k5 (by simp))
    have KW5 := hide (KW4.out.trans k5 (by simp))
    clear k5 HS4 HC4 KW4 A_4 E_4 AN EN
    go_wp2_with fail
    refine (labels_t HS5.out).mono ?_
    rintro e w6 ⟨rfl, r6, h6, k6⟩
    have HS6 := hide h6
    have HC6 := hide (HC5.out.keep k6 HD.out.2)
    have KW6 := hide (KW5.out.trans k6 (fun z hz => .inr (HOW.out z hz)))
    have FN := hide (show w5.heap.size ∉ own ∧ w5.heap.size ∉ own' from ⟨fun hm => by have := (HS5.out.lt _ hm).2; omega, fun hm => by have := (HC5.out.lt _ hm).2; omega⟩)
    have F_6 := hide r6
    clear r6 h6 k6 HS5 HC5 KW5
    generalize w5.heap.size = gF at *
    have bz0 : w6.cell? ⟨w.heap.size, 0, none⟩ = some (.int .i64 z2_0) := by rw [World.cell?_of_block (w := W) (KW6.out.block _ (by show w.heap.size < W.heap.size; have := SZ.out; omega) (by simp))]; exact CZ.out.1
    have bz1 : w6.cell? ⟨w.heap.size, 1, none⟩ = some (.int .i64 z2_1) := by rw [World.cell?_of_block (w := W) (KW6.out.block _ (by show w.heap.size < W.heap.size; have := SZ.out; omega) (by simp))]; exact CZ.out.2
    go_wp2_with fail
    refine (union_t HC6.out z2_0 z2_1).mono ?_
    rintro e w7 ⟨u7, er7, L7, rfl, h7, k7, _⟩
    have HC7 := hide h7
    have HS7 := hide (HS6.out.keep k7 HD.out.1)
    have KW7 := hide (KW6.out.trans k7 (fun z hz => .inr (HOC.out z hz)))
    have F_7 := hide (k7.row F_6.out (fun x hx => by simp [Value.ownBlock] at hx; subst hx; exact FN.out.2))
    clear h7 k7 HC6 HS6 KW6 F_6
    clear bz0 bz1
    go_wp2_with fail
    refine (labels_t HS7.out).mono ?_
    rintro e w8 ⟨rfl, r8, h8, k8⟩
    have HS8 := hide h8
    have HC8 := hide (HC7.out.keep k8 HD.out.2)
    have KW8 := hide (KW7.out.trans k8 (fun z hz => .inr (HOW.out z hz)))
    have F_8 := hide (k8.row F_7.out (fun x hx => by simp [Value.ownBlock] at hx; subst hx; exact FN.out.1))
    have GN := hide (show w7.heap.size ∉ own ∧ w7.heap.size ∉ own' from ⟨fun hm => by have := (HS7.out.lt _ hm).2; omega, fun hm => by have := (HC7.out.lt _ hm).2; omega⟩)
    have G_8 := hide r8
    clear r8 h8 k8 HS7 HC7 KW7 F_7
    generalize w7.heap.size = gG at *
    go_wp2_with fail
    refine (same_rows w8 n _ _ _ _ _ _ _ G_8.out F_8.out (by have := HN.out; omega)).mono ?_
    rintro e w9 ⟨rfl, k9⟩
    have HS9 := hide (HS8.out.keep k9 (by simp))
    have HC9 := hide (HC8.out.keep k9 (by simp))
    have KW9 := hide (KW8.out.trans k9 (by simp))
    clear k9 HS8 HC8 KW8 G_8 F_8 GN FN
    go_wp2_with fail
    refine (labels_t HC9.out).mono ?_
    rintro e w10 ⟨rfl, r10, h10, k10⟩
    have HC10 := hide h10
    have HS10 := hide (HS9.out.keep k10 HD.out.1)
    have KW10 := hide (KW9.out.trans k10 (fun z hz => .inr (HOC.out z hz)))
    have IN := hide (show w9.heap.size ∉ own ∧ w9.heap.size ∉ own' from ⟨fun hm => by have := (HS9.out.lt _ hm).2; omega, fun hm => by have := (HC9.out.lt _ hm).2; omega⟩)
    have I_10 := hide r10
    clear r10 h10 k10 HC9 HS9 KW9
    generalize w9.heap.size = gI at *
    go_wp2_with fail
    refine (union_t HS10.out 0 ((n : Int) - 1)).mono ?_
    rintro e w11 ⟨u11, er11, L11, rfl, h11, k11, _⟩
    have HS11 := hide h11
    have HC11 := hide (HC10.out.keep k11 HD.out.2)
    have KW11 := hide (KW10.out.trans k11 (fun z hz => .inr (HOW.out z hz)))
    have I_11 := hide (k11.row I_10.out (fun x hx => by simp [Value.ownBlock] at hx; subst hx; exact IN.out.1))
    clear h11 k11 HS10 HC10 KW10 I_10
    go_wp2_with fail
    refine (labels_t HC11.out).mono ?_
    rintro e w12 ⟨rfl, r12, h12, k12⟩
    have HC12 := hide h12
    have HS12 := hide (HS11.out.keep k12 HD.out.1)
    have KW12 := hide (KW11.out.trans k12 (fun z hz => .inr (HOC.out z hz)))
    have I_12 := hide (k12.row I_11.out (fun x hx => by simp [Value.ownBlock] at hx; subst hx; exact IN.out.2))
    have JN := hide (show w11.heap.size ∉ own ∧ w11.heap.size ∉ own' from ⟨fun hm => by have := (HS11.out.lt _ hm).2; omega, fun hm => by have := (HC11.out.lt _ hm).2; omega⟩)
    have J_12 := hide r12
    clear r12 h12 k12 HC11 HS11 KW11 I_11
    generalize w11.heap.size = gJ at *
    go_wp2_with fail
    refine (same_rows w12 n _ _ _ _ _ _ _ J_12.out I_12.out (by have := HN.out; omega)).mono ?_
    rintro e w13 ⟨rfl, k13⟩
    have HS13 := hide (HS12.out.keep k13 (by simp))
    have HC13 := hide (HC12.out.keep k13 (by simp))
    have KW13 := hide (KW12.out.trans k13 (by simp))
    clear k13 HS12 HC12 KW12 J_12 I_12 JN IN
    go_wp2_with fail
    refine (works _).mono ?_
    rintro e w99 ⟨rfl, bw⟩
    have HWK := hide bw
    clear bw
    go_wp2_with fail
    go_ret
    have s1 := KW13.out.below (by simp) (Nat.le_refl _)
    exact ⟨rfl, (BW.out.trans (s1.mono (by have := SZ.out; omega))).trans (HWK.out.mono (by have := SZ.out; have := KW13.out.size; omega))⟩
  · rw [show decide (0 ≤ a0 ∧ a0 ≤ 300 ∧ len1 ≤ 300) = false by simpa using hs] at SM
    clear hs b0 hc1 hr1 hrw b2_0 b2_1
    go_enter Try.func10, Try.ntmps10
    go_wp2_with fail
    generalize hW : w.alloc (.cells #[.int .i64 z2_0, .int .i64 z2_1] 40) = W at *
    clear hW
    refine SM.mono ?_
    rintro e w' ⟨rfl, rfl⟩
    have wk := works W
    go_wp2_with fail
    refine wk.mono ?_
    rintro e w2 ⟨rfl, bw⟩
    have BB := hide (bel.trans (bw.mono (by omega)))
    clear bw wk bel cz sz
    go_wp2_with fail
    go_ret
    exact ⟨rfl, BB.out⟩
theorem own : ownKnob Try.prog.godebug = none := by kernel_rfl
theorem laidOut : laidOutB Try.prog = true := by kernel_rfl
set_option maxRecDepth 100000 in
theorem lifted (os : Os) (started : os.Started) (H : Type) (enc : TypeId × Value → H) :
    ReturnsInHanded {} Try.checked os 10 .any (Rows.dsuCopiesSpec.pre6 enc Try.prog Try.f10 Rows.dsuCopiesRow.domain false) (Rows.dsuCopiesSpec.post enc Try.prog Try.f10 false true false false) := by
  refine returnsInHanded_of_change (C := Try.checked) own started (by kernel_rfl) Try.func10
    (ChangeSpec.witness6 (enc := enc) (C := Try.checked) false ⟨#[], #[.int .i64 0, .slice none 0 0, .agg #[.int .i64 0, .int .i64 0]], []⟩ 8 (by kernel_rfl) (by kernel_rfl) (by kernel_rfl) (by kernel_rfl)) ?_
  intro W base args ds gs before hval0 hW hcnd _
  have hval : ∀ (j : Nat) t v, Try.f10.params[j]? = some t → args[j]? = some v → Value.okWide Try.prog W .any base t v := hval0
  have hW' := hW
  obtain ⟨p, q, hA0, hV, rfl, hfz, hnd⟩ := hW
  have hA : DataW.TrodAll enc Try.prog W 0 (fun _ => true) true Try.f10.params.toList args.toList ds p := hA0
  rw [Try.params10] at hA hval
  obtain ⟨v0, vs0, d0, ds0, p0, q0, hargs, rfl, rfl, h0, r0⟩ := trodAll_cons hA
  obtain ⟨v1, vs1, d1, ds1, p1, q1, rfl, rfl, rfl, h1, r1⟩ := trodAll_cons r0
  obtain ⟨v2, vs2, d2, ds2, p2, q2, rfl, rfl, rfl, h2, r2⟩ := trodAll_cons r1
  obtain ⟨rfl, rfl, rfl⟩ := trodAll_nil r2
  obtain rfl : args = #[v0, v1, v2] := by cases args; simp_all
  obtain ⟨rfl, rfl⟩ := trodVars_none hV
  have k0 := h0
  have lt0 : ∀ x ∈ p0, x.block < W.heap.size := by obtain ⟨m, hm⟩ := k0; exact DataW.trod_lt m _ _ _ hm
  have k1 := h1
  have lt1 : ∀ x ∈ p1, x.block < W.heap.size := by obtain ⟨m, hm⟩ := k1; exact DataW.trod_lt m _ _ _ hm
  have k2 := h2
  have lt2 : ∀ x ∈ p2, x.block < W.heap.size := by obtain ⟨m, hm⟩ := k2; exact DataW.trod_lt m _ _ _ hm
  obtain ⟨a0, rfl, _, _, w0⟩ := open_int Try.underlying3 (hval 0 3 v0 rfl rfl) h0
  obtain ⟨s1, len1, cap1, rfl⟩ := okWide_slice Try.underlying37 (hval 1 37 v1 rfl rfl)
  obtain ⟨V1, hc1, hr1⟩ := rows_in Try.underlying37 (flat_array Try.underlying40 Try.underlying3 (by kernel_rfl) (by kernel_rfl) : FlatI Try.prog 40 [.i64, .i64]) (by decide) h1
  obtain ⟨Z2, rfl, w2⟩ := agg_in (flat_array Try.underlying40 Try.underlying3 (by kernel_rfl) (by kernel_rfl) : FlatI Try.prog 40 [.i64, .i64]) (okWide_arr Try.underlying40 (hval 2 40 v2 rfl rfl)) h2
  clear hA0 hval0
  refine (walk a0 s1 len1 cap1 V1 (Z2 0) (Z2 1) W (bounds_i64 w0) hc1 hr1 (bounds_i64 (w2 0 _ rfl)) (bounds_i64 (w2 1 _ rfl))).mono fun e W' ⟨he, bel⟩ => ?_
  subst he
  exact ⟨_, rfl, _, _, _, [], _, [], hW', trodAll_mk1 (shut_bool Try.underlying4 _), (trodAll_cons_mk (Below.trod laidOut (by kernel_rfl) (of_decide_eq_true (by kernel_rfl)) k0 bel lt0) (trodAll_cons_mk (Below.trod laidOut (by kernel_rfl) (of_decide_eq_true (by kernel_rfl)) k1 bel lt1) (trodAll_cons_mk (Below.trod laidOut (by kernel_rfl) (of_decide_eq_true (by kernel_rfl)) k2 bel lt2) trodAll_mk0))), rfl, bel.frame _, fun h => by cases h⟩
theorem holds : Rows.dsuCopiesRow.holds Try.pinned (OpenSpec.ofChange Rows.dsuCopiesSpec) :=
  OpenClaim.holds_of_wide 10 Try.f10 rfl rfl rfl rfl rfl rfl rfl ⟨rfl, rfl, rfl, rfl, rfl⟩ rfl rfl rfl rfl rfl (by kernel_rfl) Try.func10 (by kernel_rfl)
    (of_decide_eq_true (by kernel_rfl)) (by unfold Func.isWrapper; first | (rw [if_pos (by decide +kernel)]; kernel_rfl) | (rw [if_neg (by decide +kernel)]; exact ⟨rfl, rfl⟩))
    (fun os started H enc _ => lifted os started H enc)
theorem proved : Rows.DsuCopiesSaid := holds
end lawCopies
end Go.Proofs.Ytpidkfkjfcjniaa
