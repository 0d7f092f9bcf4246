/- ArenaCounts: the law answers true at every argument: Len, List and Times count the allocations. No condition. -/
import Derived.Test.YtflblojmjdlhiaaR
import Derived.Test.YtflblojmjdlhiaaOp
import Derived.Test.YtflblojmjdlhiaaRows
import Derived.Deep.CutRange
set_option linter.unusedVariables false
set_option linter.unusedSimpArgs false
namespace Go.Proofs.Ytflblojmjdlhiaa
open Go.RowKit
theorem isum_take {A : Ar} (k : Nat) : isum (A.T.take (k + 1)) = isum (A.T.take k) + A.times (k : Int) := by
  unfold Ar.times
  by_cases h : k < A.T.length
  · rw [if_pos (by omega), List.take_succ_eq_append_getElem h, isum_append]
    simp [isum, List.getD, h]
  · rw [if_neg (by omega), List.take_of_length_le (by omega), List.take_of_length_le (by omega)]
    omega
theorem isum_le {A : Ar} (ok : A.ok) (k : Nat) : 0 ≤ isum (A.T.take k) ∧ isum (A.T.take k) ≤ isum A.T := by
  have h1 := isum_ge (A.T.take k) fun t ht => (ok.u t (List.mem_of_mem_take ht)).1
  have h2 := isum_ge (A.T.drop k) fun t ht => (ok.u t (List.mem_of_mem_drop ht)).1
  have e : isum A.T = isum (A.T.take k) + isum (A.T.drop k) := by rw [← isum_append, List.take_append_drop]
  omega
theorem HL.drewN {w wr : World} {b : Nat} {A : Ar} {l : List Nat} {v : Value} (h : HL w wr b A l v) (q : Nat) : HL w (wr.drewN q) b A l v := by
  obtain ⟨h1, h2⟩ := h.has.step h.o (Kp.drewN [] wr q)
  exact h.step h1 h2
namespace lawCounts
open Go.ChangeShapes Go.WideShapes Go.ChangeAt Go.RowKit Go.Joins
set_option maxRecDepth 100000 in
set_option maxHeartbeats 8000000 in
theorem walk (a0 : Int) (s1 : Option Addr) (len1 cap1 : Nat) (V1 : Nat → Nat → Int) (w : World) (b0 : 0 ≤ a0 ∧ a0 ≤ 255) (hc1 : len1 ≤ cap1 ∧ cap1 ≤ maxLen) (hr1 : RowsI w s1 [.u8] len1 V1) : Calls Try.prog 9 #[.int .u8 a0, .slice s1 len1 cap1] w fun e w' => e = .returned (.bool true) ∧ Below w.heap.size w w' := by
  obtain ⟨a, rfl⟩ : ∃ a : Nat, a0 = (a : Int) := ⟨a0.toNat, by omega⟩
  have pt := play_t a (by omega) s1 len1 cap1 V1 w hr1
  have wa : IntKind.i64.wrap (a : Int) = (a : Int) := by rw [IntKind.wrap_i64]; omega
  obtain ⟨n, hn⟩ : ∃ n, n = 1 + a % 40 := ⟨_, rfl⟩
  have e1 : (1 : Int) + (a : Int) % 40 = (n : Int) := by omega
  have w3 : IntKind.i64.wrap (n : Int) = (n : Int) := by rw [IntKind.wrap_i64]; omega
  rw [← hn] at pt
  have PT := hide pt
  have HN := hide (show n ≤ 40 by omega)
  clear hr1 hc1 b0 pt hn
  go_enter Try.func9, Try.ntmps9
  go_wp2_with fail
  refine PT.out.mono ?_
  rintro e w1 ⟨b, A, al, fr, rfl, h1, hcap, hcnt, hsum, h500⟩
  have H1 := hide h1
  have OK := hide h1.ok
  have LE := hide (list_len h1.ok)
  have FC := hide (And.intro hcap (And.intro hcnt (And.intro hsum h500)))
  have LL := hide (list_lt h1.ok)
  have cpe := hide (show ((A.cap : Nat) : Int) = (n : Int) by rw [hcap])
  have lne := hide (show ((A.len : Nat) : Int) = (A.list.length : Int) by rw [LE.out])
  have ww : IntKind.i64.wrap ((al : Int) - (fr : Int)) = (A.list.length : Int) := by rw [IntKind.wrap_i64, LE.out]; omega
  clear h1 hcap hcnt hsum h500 PT
  go_wp2_with fail
  refine (hl_list1 H1.out).mono ?_
  rintro e w2 ⟨p, c, rfl, h2⟩
  have H2 := hide h2
  clear h2 H1
  go_wp2_with (first | (go_at_call 25; refine (h_len H2.out.has _ lne.out).mono ?_; rintro e w' ⟨rfl, rfl⟩) | (go_at_call 26; refine (h_cap H2.out.has _ cpe.out).mono ?_; rintro e w' ⟨rfl, rfl⟩))
  go_loopw [10] (fun i wr => ∃ k : Nat, i = .int .i64 (k : Int) ∧ Hid (k ≤ A.list.length) ∧ Hid (HL w wr b A A.list (.slice p A.list.length c))) (fun i _ => A.list.length - (intOf i).toNat)
  case atStart => exact ⟨0, rfl, Nat.zero_le _, H2⟩
  case round =>
    obtain ⟨k, rfl, hk, hH⟩ := hrel
    by_cases hlt : k < A.list.length
    · have dk : decide (k < A.list.length) = true := by simpa using hlt
      obtain ⟨g, rfl, hc, _, _⟩ := row_cell hH.out.row hlt
      have hx : (ints A.list)[k]? = some (.int .i64 ((A.list.getD k 0 : Nat) : Int)) := by simp [ints, List.getD, hlt]
      rw [hx] at hc
      have us := list_used hlt
      have wk : IntKind.i64.wrap ((k : Int) + 1) = (k : Int) + 1 := by have := LL.out; rw [IntKind.wrap_i64]; omega
      have HK := hide hlt
      by_cases k0 : k = 0
      · subst k0
        have d0 : decide ((0 : Int) < (((0 : Nat) : Int))) = false := rfl
        generalize A.list.getD 0 0 = x at *
        have US := hide us
        clear hx us
        go_wp2_with fail
        go_quiet (first | (go_at_call 23; exact Calls.quiet_of_same ((h_used (hH.out.drewN _).has _ _ US.out).mono fun _ _ h => ⟨h.1, h.2.symm⟩)))
        go_wp2_with fail
        go_roundw
        case rel => exact ⟨1, by go_num, by have := HK.out; show 1 ≤ A.list.length; omega, hH.out.drewN _⟩
        case measure => have := HK.out; simp [intOf] <;> omega
      · obtain ⟨j, hj⟩ : ∃ j, j + 1 = k := ⟨k - 1, by omega⟩
        have up := list_up (A := A) (k := j) (by omega)
        rw [hj] at up
        have hlt' : j < A.list.length := by omega
        have hy : (ints A.list)[j]? = some (.int .i64 ((A.list.getD j 0 : Nat) : Int)) := by simp [ints, List.getD, hlt']
        have hc2 := hH.out.row.cellAt j (by omega)
        rw [hy] at hc2
        generalize A.list.getD k 0 = x at *
        generalize A.list.getD j 0 = y at *
        have d0 : decide ((0 : Int) < (k : Int)) = true := by simp; omega
        have d0' : decide (0 < k) = true := by simp; omega
        have d1 : decide (x ≤ y) = false := by simp; omega
        have wj : IntKind.i64.wrap ((k : Int) - 1) = (j : Int) := by have := LL.out; rw [IntKind.wrap_i64]; omega
        have US := hide us
        clear hx hy us up hj k0
        go_wp2_with fail
        go_quiet (first | (go_at_call 23; exact Calls.quiet_of_same ((h_used (hH.out.drewN _).has _ _ US.out).mono fun _ _ h => ⟨h.1, h.2.symm⟩)))
        go_wp2_with fail
        go_roundw
        case rel => exact ⟨k + 1, by go_num, by have := HK.out; show k + 1 ≤ A.list.length; omega, hH.out.drewN _⟩
        case measure => have := HK.out; simp [intOf] <;> omega
    · have dk : decide (k < A.list.length) = false := by simp; omega
      have HH : Hid (Has w.heap.size w wr b A []) := hH.out.has.sub (fun x hx => by cases hx)
      clear hlt hk
      go_wp2_with fail
      go_loopw [11, 12] (fun s i wr => ∃ k : Nat, i = .int .i64 (k : Int) ∧ s = .int .u64 (isum (A.T.take k)) ∧ Hid (k ≤ n) ∧ Hid (Has w.heap.size w wr b A [])) (fun _ i _ => n - (intOf i).toNat)
      case atStart => exact ⟨0, rfl, rfl, Nat.zero_le _, HH⟩
      case round =>
        obtain ⟨k, rfl, rfl, hk, hH⟩ := hrel
        by_cases hlt : k < n
        · have dk : decide (k < n) = true := by simpa using hlt
          have wk : IntKind.i64.wrap ((k : Int) + 1) = (k : Int) + 1 := by have := HN.out; rw [IntKind.wrap_i64]; omega
          have st := isum_take (A := A) k
          have l1 := isum_le OK.out k
          have l2 := isum_le OK.out (k + 1)
          obtain ⟨f1, f2, f3, f4⟩ := FC.out
          have ws : IntKind.u64.wrap (isum (A.T.take k) + A.times (k : Int)) = isum (A.T.take k) + A.times (k : Int) := by rw [IntKind.wrap_u64, ← st]; omega
          have HK := hide hlt
          have ST := hide st
          generalize isum (A.T.take k) = t0 at *
          have ht1 : A.times (k : Int) = A.times (k : Int) := rfl
          obtain ⟨t1, ht⟩ : ∃ t1, A.times (k : Int) = t1 := ⟨_, rfl⟩
          rw [ht] at ws
          have HT := hide ht
          clear hlt l1 l2 f1 f2 f3 f4 st ht ht1
          go_wp2_with (first | (go_at_call 26; refine (h_cap hH.out _ cpe.out).mono ?_; rintro e w' ⟨rfl, rfl⟩) | (go_at_call 24; refine (h_times hH.out _ _ HT.out).mono ?_; rintro e w' ⟨rfl, rfl⟩))
          go_roundw
          case rel => exact ⟨k + 1, by go_num, by rw [ST.out, HT.out], by have := HK.out; show k + 1 ≤ n; omega, hH⟩
          case measure => have := HK.out; simp [intOf]; omega
        · have dk : decide (k < n) = false := by simp; omega
          obtain ⟨f1, f2, f3, f4⟩ := FC.out
          have es : isum (A.T.take k) = (al : Int) := by
            rw [List.take_of_length_le (by have := OK.out.le; have := hk.out; omega), f3]
          rw [es]
          have wu : IntKind.u64.wrap (al : Int) = (al : Int) := by rw [IntKind.wrap_u64]; omega
          clear hlt es f1 f2 f3 f4
          go_wp2_with (first | (go_at_call 26; refine (h_cap hH.out _ cpe.out).mono ?_; rintro e w' ⟨rfl, rfl⟩) | (go_at_call 15; refine (works _).mono ?_; rintro e w5 ⟨rfl, b5⟩; have H5 := hide b5; clear b5))
          go_ret
          exact ⟨by simp, hH.out.below.trans (H5.out.mono hH.out.below.size)⟩
theorem own : ownKnob Try.prog.godebug = none := by kernel_rfl
theorem laidOut : laidOutB Try.prog = true := by kernel_rfl
set_option maxRecDepth 100000 in
theorem lifted (os : Os) (started : os.Started) (H : Type) (enc : TypeId × Value → H) :
    ReturnsInHanded {} Try.checked os 9 .any (Rows.arenaCountsSpec.pre6 enc Try.prog Try.f9 Rows.arenaCountsRow.domain false) (Rows.arenaCountsSpec.post enc Try.prog Try.f9 false true false false) := by
  refine returnsInHanded_of_change (C := Try.checked) own started (by kernel_rfl) Try.func9
    (ChangeSpec.witness6 (enc := enc) (C := Try.checked) false ⟨#[], #[.int .u8 0, .slice none 0 0], []⟩ 8 (by kernel_rfl) (by kernel_rfl) (by kernel_rfl) (by kernel_rfl)) ?_
  intro W base args ds gs before hval0 hW hcnd _
  have hval : ∀ (j : Nat) t v, Try.f9.params[j]? = some t → args[j]? = some v → Value.okWide Try.prog W .any base t v := hval0
  have hW' := hW
  obtain ⟨p, q, hA0, hV, rfl, hfz, hnd⟩ := hW
  have hA : DataW.TrodAll enc Try.prog W 0 (fun _ => true) true Try.f9.params.toList args.toList ds p := hA0
  rw [Try.params9] at hA hval
  obtain ⟨v0, vs0, d0, ds0, p0, q0, hargs, rfl, rfl, h0, r0⟩ := trodAll_cons hA
  obtain ⟨v1, vs1, d1, ds1, p1, q1, rfl, rfl, rfl, h1, r1⟩ := trodAll_cons r0
  obtain ⟨rfl, rfl, rfl⟩ := trodAll_nil r1
  obtain rfl : args = #[v0, v1] := by cases args; simp_all
  obtain ⟨rfl, rfl⟩ := trodVars_none hV
  have k0 := h0
  have lt0 : ∀ x ∈ p0, x.block < W.heap.size := by obtain ⟨m, hm⟩ := k0; exact DataW.trod_lt m _ _ _ hm
  have k1 := h1
  have lt1 : ∀ x ∈ p1, x.block < W.heap.size := by obtain ⟨m, hm⟩ := k1; exact DataW.trod_lt m _ _ _ hm
  obtain ⟨a0, rfl, _, _, w0⟩ := open_int Try.underlying5 (hval 0 5 v0 rfl rfl) h0
  obtain ⟨s1, len1, cap1, rfl⟩ := okWide_slice Try.underlying59 (hval 1 59 v1 rfl rfl)
  obtain ⟨V1, hc1, hr1⟩ := rows_in Try.underlying59 (flat_int Try.underlying5 (by kernel_rfl)) (by decide) h1
  clear hA0 hval0
  refine (walk a0 s1 len1 cap1 V1 W (bounds_u8 w0) hc1 hr1).mono fun e W' ⟨he, bel⟩ => ?_
  subst he
  exact ⟨_, rfl, _, _, _, [], _, [], hW', trodAll_mk1 (shut_bool Try.underlying4 _), (trodAll_cons_mk (Below.trod laidOut (by kernel_rfl) (of_decide_eq_true (by kernel_rfl)) k0 bel lt0) (trodAll_cons_mk (Below.trod laidOut (by kernel_rfl) (of_decide_eq_true (by kernel_rfl)) k1 bel lt1) trodAll_mk0)), rfl, bel.frame _, fun h => by cases h⟩
theorem holds : Rows.arenaCountsRow.holds Try.pinned (OpenSpec.ofChange Rows.arenaCountsSpec) :=
  OpenClaim.holds_of_wide 9 Try.f9 rfl rfl rfl rfl rfl rfl rfl ⟨rfl, rfl, rfl, rfl, rfl⟩ rfl rfl rfl rfl rfl (by kernel_rfl) Try.func9 (by kernel_rfl)
    (of_decide_eq_true (by kernel_rfl)) (by unfold Func.isWrapper; first | (rw [if_pos (by decide +kernel)]; kernel_rfl) | (rw [if_neg (by decide +kernel)]; exact ⟨rfl, rfl⟩))
    (fun os started H enc _ => lifted os started H enc)
theorem proved : Rows.ArenaCountsSaid := holds
end lawCounts
end Go.Proofs.Ytflblojmjdlhiaa
