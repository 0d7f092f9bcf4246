/- ArenaReturns: the law answers true at every argument: a slot that is freed is the next one, and is allocated again by the next call. No condition. -/
import Derived.Test.YtflblojmjdlhiaaR
import Derived.Test.YtflblojmjdlhiaaOp
import Derived.Test.YtflblojmjdlhiaaRows
import Derived.Deep.CutRange
set_option linter.unusedVariables false
set_option linter.unusedSimpArgs false
namespace Go.Proofs.Ytflblojmjdlhiaa
open Go.RowKit
namespace lawReturns
open Go.ChangeShapes Go.WideShapes Go.ChangeAt Go.RowKit Go.Joins
set_option maxRecDepth 100000 in
set_option maxHeartbeats 8000000 in
theorem walk (a0 : Int) (s1 : Option Addr) (len1 cap1 : Nat) (V1 : Nat → Nat → Int) (a2 : Int) (w : World) (b0 : 0 ≤ a0 ∧ a0 ≤ 255) (hc1 : len1 ≤ cap1 ∧ cap1 ≤ maxLen) (hr1 : RowsI w s1 [.u8] len1 V1) (b2 : -9223372036854775808 ≤ a2 ∧ a2 ≤ 9223372036854775807) : Calls Try.prog 10 #[.int .u8 a0, .slice s1 len1 cap1, .int .i64 a2] w fun e w' => e = .returned (.bool true) ∧ Below w.heap.size w w' := by
  obtain ⟨a, rfl⟩ : ∃ a : Nat, a0 = (a : Int) := ⟨a0.toNat, by omega⟩
  have PT := hide (play_t a (by omega) s1 len1 cap1 V1 w hr1)
  clear hr1 hc1 b0 b2
  go_enter Try.func10, Try.ntmps10
  go_wp2_with fail
  refine PT.out.mono ?_
  rintro e w1 ⟨b, A, al, fr, rfl, h1, -, -, -, -⟩
  have H1 := hide h1
  have OK := hide h1.ok
  clear h1 PT
  go_wp2_with fail
  refine (hl_list1 H1.out).mono ?_
  rintro e w2 ⟨p, c, rfl, h2⟩
  have H2 := hide h2
  have LL := hide (list_lt OK.out)
  have LN := hide (list_len OK.out)
  clear h2 H1
  obtain ⟨nx, nb, hnx⟩ := nextV_pair A
  have NX := hide hnx
  clear hnx
  go_wp2_with fail
  refine (hl_next H2.out _ NX.out).mono ?_
  rintro e w3 ⟨rfl, h3⟩
  have H3 := hide h3
  clear h3 H2
  go_wp2_with fail
  cases hu : A.used a2 with
  | false =>
    refine (h_used H3.out.has _ _ hu).mono ?_
    rintro e w' ⟨rfl, rfl⟩
    have ff : A.free' a2 = A := by unfold Ar.free'; rw [hu]; rfl
    have fe : A.freeE a2 = if a2 < 0 ∨ (A.cap : Int) ≤ a2 then 3 else 5 := by unfold Ar.freeE; rw [hu]; rfl
    have FF := hide ff
    have fin : ∀ w4 : World, HL w w4 b A A.list (.slice p A.list.length c) → Calls Try.prog 27 #[.pointer (some ⟨b, 0, none⟩)] w4 fun e w' => ∃ p' c', e = .returned (.slice p' A.list.length c') ∧ HL w w' b A A.list (.slice p A.list.length c) ∧ Calls Try.prog 30 #[.slice p' A.list.length c', .slice p A.list.length c] w' fun e w'' => e = .returned (.bool true) ∧ Below w.heap.size w w'' := by
      intro w4 h4
      refine (hl_list h4).mono ?_
      rintro e w5 ⟨p', c', rfl, o, h5⟩
      refine ⟨p', c', rfl, h5, (same_t w5 A.list _ _ p' p c' c o h5.row LL.out).mono ?_⟩
      rintro e w6 ⟨rfl, k⟩
      exact ⟨rfl, h5.has.below.trans (k.below (by simp) h5.has.below.size)⟩
    have FIN := hide fin
    clear ff hu fin
    rcases (show a2 < 0 ∨ (0 ≤ a2 ∧ (A.cap : Int) ≤ a2) ∨ (0 ≤ a2 ∧ a2 < (A.cap : Int)) by omega) with hr | ⟨h0, hr⟩ | ⟨h0, hr⟩
    · rw [if_pos (.inl hr)] at fe
      have FE := hide fe
      have d0 : decide (0 ≤ a2) = false := by simp; omega
      clear fe hr
      go_wp2_with fail
      refine (hl_free H3.out _ _ _ FE.out FF.out).mono ?_
      rintro e w4 ⟨rfl, h4⟩
      have H4 := hide h4
      clear h4
      go_wp2_with fail
      refine (FIN.out _ H4.out).mono ?_
      rintro e w5 ⟨p', c', rfl, h5, h6⟩
      have H6 := hide h6
      clear h5 h6
      go_wp2_with fail
      refine H6.out.mono ?_
      rintro e w6 ⟨rfl, h7⟩
      have H7 := hide h7
      clear h7
      go_wp2_with fail
      refine (works _).mono ?_
      rintro e w7 ⟨rfl, h8⟩
      have H8 := hide h8
      clear h8
      go_wp2_with fail
      go_ret
      exact ⟨by simp, H7.out.trans (H8.out.mono H7.out.size)⟩
    · rw [if_pos (.inr hr)] at fe
      have FE := hide fe
      have d0 : decide (0 ≤ a2) = true := by simp; omega
      have d1 : decide (a2 < (A.cap : Int)) = false := by simp; omega
      clear fe hr h0
      go_wp2_with fail
      refine (hl_free H3.out _ _ _ FE.out FF.out).mono ?_
      rintro e w4 ⟨rfl, h4⟩
      have H4 := hide h4
      clear h4
      go_wp2_with fail
      refine (h_cap H4.out.has _ rfl).mono ?_
      rintro e w' ⟨rfl, rfl⟩
      go_wp2_with fail
      refine (FIN.out _ H4.out).mono ?_
      rintro e w5 ⟨p', c', rfl, h5, h6⟩
      have H6 := hide h6
      clear h5 h6
      go_wp2_with fail
      refine H6.out.mono ?_
      rintro e w6 ⟨rfl, h7⟩
      have H7 := hide h7
      clear h7
      go_wp2_with fail
      refine (works _).mono ?_
      rintro e w7 ⟨rfl, h8⟩
      have H8 := hide h8
      clear h8
      go_wp2_with fail
      go_ret
      exact ⟨by simp, H7.out.trans (H8.out.mono H7.out.size)⟩
    · rw [if_neg (by omega)] at fe
      have FE := hide fe
      have d0 : decide (0 ≤ a2) = true := by simp; omega
      have d1 : decide (a2 < (A.cap : Int)) = true := by simp; omega
      clear fe hr h0
      go_wp2_with fail
      refine (hl_free H3.out _ _ _ FE.out FF.out).mono ?_
      rintro e w4 ⟨rfl, h4⟩
      have H4 := hide h4
      clear h4
      go_wp2_with fail
      refine (h_cap H4.out.has _ rfl).mono ?_
      rintro e w' ⟨rfl, rfl⟩
      go_wp2_with fail
      refine (FIN.out _ H4.out).mono ?_
      rintro e w5 ⟨p', c', rfl, h5, h6⟩
      have H6 := hide h6
      clear h5 h6
      go_wp2_with fail
      refine H6.out.mono ?_
      rintro e w6 ⟨rfl, h7⟩
      have H7 := hide h7
      clear h7
      go_wp2_with fail
      refine (works _).mono ?_
      rintro e w7 ⟨rfl, h8⟩
      have H8 := hide h8
      clear h8
      go_wp2_with fail
      go_ret
      exact ⟨by simp, H7.out.trans (H8.out.mono H7.out.size)⟩
  | true =>
    refine (h_used H3.out.has _ _ hu).mono ?_
    rintro e w' ⟨rfl, rfl⟩
    have h0 : 0 ≤ a2 := by
      unfold Ar.used at hu
      simp at hu
      exact hu.1.1
    obtain ⟨x, rfl⟩ : ∃ x : Nat, a2 = (x : Int) := ⟨a2.toNat, by omega⟩
    obtain ⟨hx1, hx2⟩ := (used_iff A x).1 hu
    obtain ⟨g1, g2, g3⟩ := free_facts OK.out hu
    have fe : A.freeE (x : Int) = 0 := by unfold Ar.freeE; rw [hu, if_neg (by have := OK.out.le; omega)]; rfl
    have ff : A.free' (x : Int) = A.free x := by unfold Ar.free'; rw [hu]; rfl
    have tt : A.times (x : Int) = A.T.getD x 0 := by unfold Ar.times; rw [if_pos (by omega)]; rfl
    have fu : (A.free x).used (x : Int) = false := by rw [g1 x, if_pos rfl]
    have fl : (((A.free x).len : Nat) : Int) = (A.list.length : Int) - 1 := by have := LN.out; omega
    have fn : nextV (A.free x) = .tuple #[.int .i64 (x : Int), .bool true] := rfl
    have fa : allocV (A.free x) = .tuple #[.int .i64 (x : Int), .int .i64 0] := rfl
    have fb : (A.free x).alloc' = ⟨A.cap, A.T.set x (IntKind.u64.wrap (A.T.getD x 0 + 1)), A.fr⟩ := rfl
    have fc : nextV ⟨A.cap, A.T.set x (IntKind.u64.wrap (A.T.getD x 0 + 1)), A.fr⟩ = .tuple #[.int .i64 nx, .bool nb] := (nextV_congr (A := A) (A' := ⟨A.cap, A.T.set x (IntKind.u64.wrap (A.T.getD x 0 + 1)), A.fr⟩) rfl rfl (by simp)).trans NX.out
    have fd : (Ar.mk A.cap (A.T.set x (IntKind.u64.wrap (A.T.getD x 0 + 1))) A.fr).times (x : Int) = IntKind.u64.wrap (A.times (x : Int) + 1) := by
      rw [tt]
      unfold Ar.times
      rw [if_pos (by simp; omega)]
      simp [List.getD, hx1]
    have fli : (Ar.mk A.cap (A.T.set x (IntKind.u64.wrap (A.T.getD x 0 + 1))) A.fr).list = A.list := list_congr (by simp) fun j => by
      rw [Bool.eq_iff_iff, used_iff, used_iff]
      simp
    generalize hA2 : (Ar.mk A.cap (A.T.set x (IntKind.u64.wrap (A.T.getD x 0 + 1))) A.fr) = A2 at *
    generalize hT : A.times (x : Int) = t at *
    have FE := hide fe
    have FF := hide ff
    have FU := hide fu
    have FL := hide fl
    have FN := hide fn
    have FA := hide fa
    have FB := hide fb
    have FC := hide fc
    have FD := hide fd
    have FLI := hide fli
    have FT := hide hT
    have wl : IntKind.i64.wrap ((A.list.length : Int) - 1) = (A.list.length : Int) - 1 := by have := LL.out; rw [IntKind.wrap_i64]; omega
    clear hu h0 hx1 hx2 g1 g2 g3 fe ff tt fu fl fn fa fb fc fd fli hA2 hT
    go_wp2_with fail
    refine (h_times H3.out.has _ _ FT.out).mono ?_
    rintro e w' ⟨rfl, rfl⟩
    go_wp2_with fail
    refine (hl_free H3.out _ _ _ FE.out FF.out).mono ?_
    rintro e w4 ⟨rfl, h4⟩
    have H4 := hide h4
    clear h4 H3
    go_wp2_with fail
    refine (h_used H4.out.has _ _ FU.out).mono ?_
    rintro e w' ⟨rfl, rfl⟩
    go_wp2_with fail
    refine (h_len H4.out.has _ FL.out).mono ?_
    rintro e w' ⟨rfl, rfl⟩
    go_wp2_with fail
    refine (hl_next H4.out _ FN.out).mono ?_
    rintro e w5 ⟨rfl, h5⟩
    have H5 := hide h5
    clear h5 H4
    go_wp2_with fail
    refine (hl_alloc H5.out _ _ FA.out FB.out).mono ?_
    rintro e w6 ⟨rfl, h6⟩
    have H6 := hide h6
    clear h6 H5
    go_wp2_with fail
    refine (hl_next H6.out _ FC.out).mono ?_
    rintro e w7 ⟨rfl, h7⟩
    have H7 := hide h7
    clear h7 H6
    go_wp2_with fail
    refine (h_times H7.out.has _ _ FD.out).mono ?_
    rintro e w' ⟨rfl, rfl⟩
    go_wp2_with fail
    refine (hl_list H7.out).mono ?_
    rintro e w8 ⟨p', c', rfl, o8, h8⟩
    rw [FLI.out] at o8 ⊢
    have H8 := hide h8
    have O8 := hide o8
    clear h8 o8 H7
    go_wp2_with fail
    refine (same_t w8 A.list _ _ p' p c' c O8.out H8.out.row LL.out).mono ?_
    rintro e w9 ⟨rfl, k9⟩
    have H9 : Hid (Below w.heap.size w w9) := H8.out.has.below.trans (k9.below (by simp) H8.out.has.below.size)
    clear k9 H8 O8
    go_wp2_with fail
    refine (works _).mono ?_
    rintro e w10 ⟨rfl, h10⟩
    have H10 := hide h10
    clear h10
    go_wp2_with fail
    go_ret
    exact ⟨by simp, H9.out.trans (H10.out.mono H9.out.size)⟩
theorem own : ownKnob Try.prog.godebug = none := by kernel_rfl
theorem laidOut : laidOutB Try.prog = true := by kernel_rfl
set_option maxRecDepth 100000 in
theorem lifted (os : Os) (started : os.Started) (H : Type) (enc : TypeId × Value → H) :
    ReturnsInHanded {} Try.checked os 10 .any (Rows.arenaReturnsSpec.pre6 enc Try.prog Try.f10 Rows.arenaReturnsRow.domain false) (Rows.arenaReturnsSpec.post enc Try.prog Try.f10 false true false false) := by
  refine returnsInHanded_of_change (C := Try.checked) own started (by kernel_rfl) Try.func10
    (ChangeSpec.witness6 (enc := enc) (C := Try.checked) false ⟨#[], #[.int .u8 0, .slice none 0 0, .int .i64 0], []⟩ 8 (by kernel_rfl) (by kernel_rfl) (by kernel_rfl) (by kernel_rfl)) ?_
  intro W base args ds gs before hval0 hW hcnd _
  have hval : ∀ (j : Nat) t v, Try.f10.params[j]? = some t → args[j]? = some v → Value.okWide Try.prog W .any base t v := hval0
  have hW' := hW
  obtain ⟨p, q, hA0, hV, rfl, hfz, hnd⟩ := hW
  have hA : DataW.TrodAll enc Try.prog W 0 (fun _ => true) true Try.f10.params.toList args.toList ds p := hA0
  rw [Try.params10] at hA hval
  obtain ⟨v0, vs0, d0, ds0, p0, q0, hargs, rfl, rfl, h0, r0⟩ := trodAll_cons hA
  obtain ⟨v1, vs1, d1, ds1, p1, q1, rfl, rfl, rfl, h1, r1⟩ := trodAll_cons r0
  obtain ⟨v2, vs2, d2, ds2, p2, q2, rfl, rfl, rfl, h2, r2⟩ := trodAll_cons r1
  obtain ⟨rfl, rfl, rfl⟩ := trodAll_nil r2
  obtain rfl : args = #[v0, v1, v2] := by cases args; simp_all
  obtain ⟨rfl, rfl⟩ := trodVars_none hV
  have k0 := h0
  have lt0 : ∀ x ∈ p0, x.block < W.heap.size := by obtain ⟨m, hm⟩ := k0; exact DataW.trod_lt m _ _ _ hm
  have k1 := h1
  have lt1 : ∀ x ∈ p1, x.block < W.heap.size := by obtain ⟨m, hm⟩ := k1; exact DataW.trod_lt m _ _ _ hm
  have k2 := h2
  have lt2 : ∀ x ∈ p2, x.block < W.heap.size := by obtain ⟨m, hm⟩ := k2; exact DataW.trod_lt m _ _ _ hm
  obtain ⟨a0, rfl, _, _, w0⟩ := open_int Try.underlying5 (hval 0 5 v0 rfl rfl) h0
  obtain ⟨s1, len1, cap1, rfl⟩ := okWide_slice Try.underlying59 (hval 1 59 v1 rfl rfl)
  obtain ⟨V1, hc1, hr1⟩ := rows_in Try.underlying59 (flat_int Try.underlying5 (by kernel_rfl)) (by decide) h1
  obtain ⟨a2, rfl, _, _, w2⟩ := open_int Try.underlying3 (hval 2 3 v2 rfl rfl) h2
  clear hA0 hval0
  refine (walk a0 s1 len1 cap1 V1 a2 W (bounds_u8 w0) hc1 hr1 (bounds_i64 w2)).mono fun e W' ⟨he, bel⟩ => ?_
  subst he
  exact ⟨_, rfl, _, _, _, [], _, [], hW', trodAll_mk1 (shut_bool Try.underlying4 _), (trodAll_cons_mk (Below.trod laidOut (by kernel_rfl) (of_decide_eq_true (by kernel_rfl)) k0 bel lt0) (trodAll_cons_mk (Below.trod laidOut (by kernel_rfl) (of_decide_eq_true (by kernel_rfl)) k1 bel lt1) (trodAll_cons_mk (Below.trod laidOut (by kernel_rfl) (of_decide_eq_true (by kernel_rfl)) k2 bel lt2) trodAll_mk0))), rfl, bel.frame _, fun h => by cases h⟩
theorem holds : Rows.arenaReturnsRow.holds Try.pinned (OpenSpec.ofChange Rows.arenaReturnsSpec) :=
  OpenClaim.holds_of_wide 10 Try.f10 rfl rfl rfl rfl rfl rfl rfl ⟨rfl, rfl, rfl, rfl, rfl⟩ rfl rfl rfl rfl rfl (by kernel_rfl) Try.func10 (by kernel_rfl)
    (of_decide_eq_true (by kernel_rfl)) (by unfold Func.isWrapper; first | (rw [if_pos (by decide +kernel)]; kernel_rfl) | (rw [if_neg (by decide +kernel)]; exact ⟨rfl, rfl⟩))
    (fun os started H enc _ => lifted os started H enc)
theorem proved : Rows.ArenaReturnsSaid := holds
end lawReturns
end Go.Proofs.Ytflblojmjdlhiaa
