/- ArenaCopies: the law answers true at every argument: a copy goes on as the original does, and what happens to one of both does not change the other one. No condition. -/
import Derived.Test.YtflblojmjdlhiaaK
import Derived.Test.YtflblojmjdlhiaaOp
import Derived.Test.YtflblojmjdlhiaaRows
import Derived.Deep.CutRange
set_option linter.unusedVariables false
set_option linter.unusedSimpArgs false
namespace Go.Proofs.Ytflblojmjdlhiaa
open Go.RowKit
namespace lawCopies
open Go.ChangeShapes Go.WideShapes Go.ChangeAt Go.RowKit Go.Joins
set_option maxRecDepth 100000 in
set_option maxHeartbeats 8000000 in
theorem walk (a0 : Int) (s1 : Option Addr) (len1 cap1 : Nat) (V1 : Nat → Nat → Int) (w : World) (b0 : 0 ≤ a0 ∧ a0 ≤ 255) (hc1 : len1 ≤ cap1 ∧ cap1 ≤ maxLen) (hr1 : RowsI w s1 [.u8] len1 V1) : Calls Try.prog 11 #[.int .u8 a0, .slice s1 len1 cap1] w fun e w' => e = .returned (.bool true) ∧ Below w.heap.size w w' := by
  obtain ⟨a, rfl⟩ : ∃ a : Nat, a0 = (a : Int) := ⟨a0.toNat, by omega⟩
  have pt := play_t a (by omega) s1 len1 cap1 V1 w hr1
  have PT := hide pt
  have hp := up22
  clear hr1 hc1 b0 pt
  go_enter Try.func11, Try.ntmps11
  go_wp2_with fail
  refine PT.out.mono ?_
  rintro e w1 ⟨b, A, al, fr, rfl, h1, hcap, -, -, -⟩
  have H1 := hide h1
  have OK := hide h1.ok
  have LE := hide (list_len h1.ok)
  have LL := hide (list_lt h1.ok)
  have HC := hide (show A.cap ≤ 40 by omega)
  have CT := hide (show Calls Try.prog 20 #[.pointer (some ⟨b, 0, none⟩)] w1 fun e w2 => ∃ d, e = .returned (.pointer (some ⟨d, 0, none⟩)) ∧ Two w w2 b A d A [] by
    obtain ⟨own, hA, _⟩ := id h1
    refine (copy_t hA).mono ?_
    rintro e w2 ⟨d, own', rfl, h2, k2⟩
    exact ⟨d, rfl, Two.copied h1 k2 h2⟩)
  clear h1 hcap PT
  go_wp2_with fail
  refine CT.out.mono ?_
  rintro e w2 ⟨d, rfl, t2⟩
  have T2' := hide t2
  clear t2 CT H1
  go_wp2_with fail
  refine (t_list T2'.out.symm).mono ?_
  rintro e w3 ⟨p1, c1, rfl, o3, k3, t3⟩
  have O3 := hide o3
  have T3 := hide (t3.symm.sub (O' := []) (fun x hx => by cases hx))
  clear o3 k3 t3 T2'
  go_wp2_with fail
  refine (t_list T3.out).mono ?_
  rintro e w4 ⟨p2, c2, rfl, o4, k4, t4⟩
  have O4 := hide o4
  have O3' := hide (k4.row O3.out (by simp))
  have T4 := hide (t4.sub (O' := []) (fun x hx => by cases hx))
  clear o4 k4 t4 T3 O3
  go_wp2_with fail
  refine (same_t w4 A.list _ _ p1 p2 c1 c2 O3'.out O4.out LL.out).mono ?_
  rintro e w5 ⟨rfl, k5⟩
  have T5 := hide (T4.out.step (by simp) k5).1
  clear k5 T4 O3' O4
  go_wp2_with fail
  refine (t_list T5.out).mono ?_
  rintro e w6 ⟨p, c, rfl, o6, k6, t6⟩
  have C6 : Hid (CpI w w6 b A d A A.list (.slice p A.list.length c) [] (.slice none 0 0)) := by
    refine ⟨t6.sub (fun x hx => by
      rw [List.mem_append] at hx ⊢
      rcases hx with h | h
      · simp [Value.ownBlock] at h
      · exact .inl h), row_mono o6 T5.out.below.size, World.ownsRow_nil _ _ _ _, fun k _ => by simp [Value.ownBlock]⟩
  clear o6 k6 t6 T5
  go_wp2_with fail
  go_loopw [11, 12] (fun g k wr => ∃ (q : Nat) (G : List Nat) (C : Ar), k = .int .i64 (q : Int) ∧ Hid (runs A G C) ∧ Hid (q = G.length ∧ C.len = A.len + q ∧ C.cap = A.cap) ∧ Hid (CpI w wr b A d C A.list (.slice p A.list.length c) G g)) (fun _ k _ => A.cap + 1 - (intOf k).toNat)
  case atStart => exact ⟨0, [], A, rfl, rfl, ⟨rfl, rfl, rfl⟩, C6⟩
  case round =>
    obtain ⟨q, G, C, rfl, hR, hF, hP⟩ := hrel
    have cok := hP.out.two.ok.2
    have hq : q ≤ A.cap := by
      have := hF.out
      have h1 : C.len ≤ C.cap := by have := cok.le; unfold Ar.len; omega
      omega
    have dq : decide (q ≤ A.cap) = true := by simpa using hq
    have wq : IntKind.i64.wrap ((q : Int) + 1) = (q : Int) + 1 := by have := HC.out; rw [IntKind.wrap_i64]; omega
    have HQ := hide hq
    have CO := hide cok
    clear hq cok
    rcases hnx : C.next with _ | i
    · have ea : allocV C = .tuple #[.int .i64 0, .int .i64 4] := by unfold allocV; rw [hnx]
      have eb : C.alloc' = C := by unfold Ar.alloc'; rw [hnx]
      obtain ⟨n1, n2⟩ := next_none CO.out hnx
      have NN := hide (And.intro n1 n2)
      have GL : Hid (A.cap = A.list.length + G.length) := by
        have := hF.out
        have h2 : C.len = C.cap := by unfold Ar.len; rw [n1, n2]; simp
        show A.cap = _
        rw [LE.out]; omega
      have EA := hide ea
      have EB := hide eb
      clear ea eb n1 n2 hnx dq
      have dq : decide (q ≤ A.cap) = true := by simpa using HQ.out
      obtain ⟨pg, cg, rfl⟩ := row_slice hP.out.rg
      have wg : IntKind.i64.wrap ((A.cap : Int) - (A.list.length : Int)) = (G.length : Int) := by have := HC.out; have := GL.out; rw [IntKind.wrap_i64]; omega
      go_wp2_with (first | (go_at_call 26; refine (t_cap hP.out.two _ rfl).mono ?_; rintro e w' ⟨rfl, rfl⟩) | (go_at_call 16; refine (cp_alloc2 hP.out _ _ EA.out EB.out).mono ?_; rintro e w7 ⟨rfl, h7⟩; have P7 := hide h7; clear h7) | (go_at_call 27; refine (cp_list P7.out).mono ?_; rintro e w8 ⟨p8, c8, rfl, o8, h8⟩; have O8 := hide o8; have P8 := hide h8; clear o8 h8) | (go_at_call 30; refine (same_t w8 A.list _ _ p8 p c8 c O8.out P8.out.rl LL.out).mono ?_; rintro e w9 ⟨rfl, k9⟩; have P9 := hide (P8.out.keep k9); clear k9) | (go_at_call 26; refine (t_cap P9.out.two _ rfl).mono ?_; rintro e w' ⟨rfl, rfl⟩))
      clear O8 P8 P7 hP EA EB wq dq
      go_loopw [15] (fun k wr => ∃ (q : Nat) (C' : Ar), k = .int .i64 (q : Int) ∧ Hid (q ≤ A.list.length ∧ C'.len + q = C.len ∧ C'.cap = A.cap ∧ ∀ j : Nat, C'.used j = (C.used j && decide (j ∉ A.list.take q))) ∧ Hid (CpI w wr b A d C' A.list (.slice p A.list.length c) G (.slice pg G.length cg))) (fun k _ => A.list.length - (intOf k).toNat)
      case atStart => exact ⟨0, C, rfl, ⟨Nat.zero_le _, rfl, hF.out.2.2, fun j => by simp⟩, P9⟩
      case round =>
        obtain ⟨q, C', rfl, hF', hP⟩ := hrel
        by_cases hlt : q < A.list.length
        · have dk : decide (q < A.list.length) = true := by simpa using hlt
          obtain ⟨g, rfl, hcell, _, _⟩ := row_cell hP.out.rl hlt
          have hx : (ints A.list)[q]? = some (.int .i64 ((A.list.getD q 0 : Nat) : Int)) := by simp [ints, List.getD, hlt]
          rw [hx] at hcell
          obtain ⟨m1, m2⟩ := list_mem OK.out hlt
          have tk : A.list.take (q + 1) = A.list.take q ++ [A.list.getD q 0] := by rw [List.take_succ_eq_append_getElem hlt]; simp [List.getD, hlt]
          have wq : IntKind.i64.wrap ((q : Int) + 1) = (q : Int) + 1 := by have := LL.out; rw [IntKind.wrap_i64]; omega
          generalize A.list.getD q 0 = x at *
          obtain ⟨g1, g2, g3, g4⟩ := hF'.out
          have ux : C'.used x = true := by
            rw [g4 x, full_used NN.out.1 x (by rw [NN.out.2]; have := hF.out; omega)]
            simp [m2]
          obtain ⟨f1, f2, f3⟩ := free_facts hP.out.two.ok.2 ux
          obtain ⟨fe, ff⟩ := freeE_facts (A := C') (x := x) f3
          rw [ux] at fe ff
          have NF : Hid (q + 1 ≤ A.list.length ∧ (C'.free x).len + (q + 1) = C.len ∧ (C'.free x).cap = A.cap ∧ ∀ j : Nat, (C'.free x).used j = (C.used j && decide (j ∉ A.list.take (q + 1)))) := by
            refine ⟨hlt, by omega, g3, fun j => ?_⟩
            rw [f1 j, tk]
            by_cases hj : j = x
            · subst hj; simp
            · rw [if_neg hj, g4 j]
              simp [hj]
          have FE := hide fe
          have FF := hide ff
          have HL := hide hlt
          clear hx m1 m2 tk g1 g2 g3 g4 ux f1 f2 f3 fe ff
          go_wp2_with (go_at_call 18; refine (cp_free2 hP.out _ _ _ FE.out FF.out).mono ?_; rintro e w7 ⟨rfl, h7⟩; have P7 := hide h7; clear h7)
          go_roundw
          case rel => exact ⟨q + 1, C'.free x, by go_num, NF, P7⟩
          case measure => have := HL.out; simp [intOf]; omega
        · have dk : decide (q < A.list.length) = false := by simp; omega
          have CL : Hid (C'.list.length = G.length) := by
            have h1 := list_len hP.out.two.ok.2
            have h2 := hF'.out
            have h3 := hF.out
            show C'.list.length = G.length
            rw [h1]
            have := LE.out
            omega
          have GL40 : Hid (G.length ≤ 40) := by have := GL.out; have := HC.out; show G.length ≤ 40; omega
          clear hlt
          go_wp2_with (first | (go_at_call 27; refine (cp_list hP.out).mono ?_; rintro e w8 ⟨p8, c8, rfl, o8, h8⟩; have O8 := hide o8; have P8 := hide h8; clear o8 h8) | (go_at_call 30; refine (same_t w8 A.list _ _ p8 p c8 c O8.out P8.out.rl LL.out).mono ?_; rintro e w9 ⟨rfl, k9⟩; have P10 := hide (P8.out.keep k9); clear k9))
          clear O8 P8 hP P9
          go_loopw [16] (fun k wr => ∃ (q : Nat) (A' : Ar), k = .int .i64 (q : Int) ∧ Hid (q ≤ G.length) ∧ Hid (runs A' (G.drop q) C) ∧ Hid (CpI w wr b A' d C' A.list (.slice p A.list.length c) G (.slice pg G.length cg))) (fun k _ => G.length - (intOf k).toNat)
          case atStart => exact ⟨0, A, rfl, Nat.zero_le _, hR, P10⟩
          case round =>
            obtain ⟨q, A', rfl, hq, hR', hP⟩ := hrel
            by_cases hlt : q < G.length
            · have dk : decide (q < G.length) = true := by simpa using hlt
              obtain ⟨g, rfl, _, _, _⟩ := row_cell hP.out.rg hlt
              have hx : (ints G)[q]? = some (.int .i64 ((G.getD q 0 : Nat) : Int)) := by simp [ints, List.getD, hlt]
              have hr := hR'.out
              rw [List.drop_eq_getElem_cons hlt] at hr
              have hg : G[q] = G.getD q 0 := by simp [List.getD, hlt]
              rw [hg] at hr
              have wq : IntKind.i64.wrap ((q : Int) + 1) = (q : Int) + 1 := by have := GL40.out; rw [IntKind.wrap_i64]; omega
              generalize G.getD q 0 = x at *
              obtain ⟨r1, r2⟩ := hr
              have ea : allocV A' = .tuple #[.int .i64 (x : Int), .int .i64 0] := by unfold allocV; rw [r1]
              have eb : A'.alloc' = A'.alloc := by unfold Ar.alloc'; rw [r1]
              have EA := hide ea
              have EB := hide eb
              have R2 := hide r2
              have HL := hide hlt
              have HX := hide hx
              clear hx hg r1 r2 ea eb
              go_wp2_with (go_at_call 16; refine (cp_alloc hP.out _ _ EA.out EB.out).mono ?_; rintro e w7 ⟨rfl, h7⟩; have c7 : w7.cell? ⟨g, q, none⟩ = some (.int .i64 (x : Int)) := (h7.rg.cellAt q (by have := HL.out; omega)).trans HX.out; have P7 := hide h7; clear h7)
              go_roundw
              case rel => exact ⟨q + 1, A'.alloc, by go_num, by have := HL.out; show q + 1 ≤ G.length; omega, R2, P7⟩
              case measure => have := HL.out; simp [intOf]; omega
            · have dk : decide (q < G.length) = false := by simp; omega
              clear hlt
              go_wp2_with fail
              refine (cp_list2 hP.out).mono ?_
              rintro e w8 ⟨p8, c8, rfl, h8⟩
              have H8 := hide h8.two.below
              rw [CL.out]
              clear h8
              go_wp2_with fail
              refine (works _).mono ?_
              rintro e w9 ⟨rfl, h9⟩
              have H9 := hide h9
              clear h9
              go_wp2_with fail
              go_ret
              exact ⟨by simp, H8.out.trans (H9.out.mono H8.out.size)⟩
    · have ea : allocV C = .tuple #[.int .i64 (i : Int), .int .i64 0] := by unfold allocV; rw [hnx]
      obtain ⟨f0, f1, f2, f3, f4, f5, _⟩ := alloc_facts CO.out hnx
      have EA := hide ea
      have EB := hide f0
      have HR2 := hide (runs_snoc G A C i hR.out hnx)
      have HF2 : Hid (q + 1 = (G ++ [i]).length ∧ C.alloc.len = A.len + (q + 1) ∧ C.alloc.cap = A.cap) := by
        obtain ⟨g1, g2, g3⟩ := hF.out
        exact ⟨by simp [g1], by rw [f4, g2]; omega, f5.trans g3⟩
      have HGL : Hid (G.length ≤ 40) := by have := hF.out; have := HQ.out; have := HC.out; show G.length ≤ 40; omega
      have HQ2 : Hid (q < A.cap) := by
        have h1 := hF.out
        have ok2 := CO.out.le
        have hle := C.fr_le CO.out
        show q < A.cap
        have h3 : C.len < C.cap := by
          rcases Nat.lt_or_ge C.len C.cap with h | h
          · exact h
          · exfalso
            unfold Ar.len at h
            have e1 : C.fr.length = 0 := by omega
            have e2 : C.fr = [] := List.eq_nil_of_length_eq_zero e1
            have e3 : C.T.length = C.cap := by omega
            unfold Ar.next at hnx
            rw [e2] at hnx
            simp at hnx
            omega
        omega
      clear ea f0 f1 f2 f3 f4 f5 hnx
      obtain ⟨i0, hi, hz0, hz1, hz2⟩ := info_parts info3
      have HI := hide (And.intro hi (And.intro hz0 (And.intro hz1 hz2)))
      clear hi hz0 hz1 hz2
      go_wp2_with (first | (go_at_call 26; refine (t_cap hP.out.two _ rfl).mono ?_; rintro e w' ⟨rfl, rfl⟩) | (go_at_call 16; refine (cp_alloc2 hP.out _ _ EA.out EB.out).mono ?_; rintro e w7 ⟨rfl, h7⟩; have P7 := hide h7; clear h7) | (at_builtin; refine wpList_append_new _ rfl _ _ 51 rfl w.heap.size 3 i0 (.int .i64 0) 1 8 Try.underlying51 HI.out.1 HI.out.2.1 HI.out.2.2.1 HI.out.2.2.2 rfl (by decide) u11 G.length (ints G) rfl (P7.out.rg.alloc _) ⟨w7.heap.size, 0, none⟩ 1 1 [.int .i64 (i : Int)] rfl rfl (one_src w7 _ 3) (by simp [Value.oneCell']) (by have := HGL.out; unfold maxLen; omega) (by have := HGL.out; omega) (by have := P7.out.two.below.size; simp; omega) ?_))
      intro v' w' ho hg hn
      have k7 : Kp [] w7 (w7.alloc (.cells #[Value.int .i64 (i : Int)] 3)) := .of_below ((Below.refl _ _).alloc (Nat.le_refl _) _)
      have P8 := hide ((P7.out.keep k7).more ho hg (by simpa using hn))
      clear ho hg hn k7
      go_wp2_with fail
      go_roundw
      case rel => exact ⟨q + 1, G ++ [i], C.alloc, by go_num, HR2, HF2, P8⟩
      case measure => have := HQ2.out; simp [intOf]; omega
theorem own : ownKnob Try.prog.godebug = none := by kernel_rfl
theorem laidOut : laidOutB Try.prog = true := by kernel_rfl
set_option maxRecDepth 100000 in
theorem lifted (os : Os) (started : os.Started) (H : Type) (enc : TypeId × Value → H) :
    ReturnsInHanded {} Try.checked os 11 .any (Rows.arenaCopiesSpec.pre6 enc Try.prog Try.f11 Rows.arenaCopiesRow.domain false) (Rows.arenaCopiesSpec.post enc Try.prog Try.f11 false true false false) := by
  refine returnsInHanded_of_change (C := Try.checked) own started (by kernel_rfl) Try.func11
    (ChangeSpec.witness6 (enc := enc) (C := Try.checked) false ⟨#[], #[.int .u8 0, .slice none 0 0], []⟩ 8 (by kernel_rfl) (by kernel_rfl) (by kernel_rfl) (by kernel_rfl)) ?_
  intro W base args ds gs before hval0 hW hcnd _
  have hval : ∀ (j : Nat) t v, Try.f11.params[j]? = some t → args[j]? = some v → Value.okWide Try.prog W .any base t v := hval0
  have hW' := hW
  obtain ⟨p, q, hA0, hV, rfl, hfz, hnd⟩ := hW
  have hA : DataW.TrodAll enc Try.prog W 0 (fun _ => true) true Try.f11.params.toList args.toList ds p := hA0
  rw [Try.params11] at hA hval
  obtain ⟨v0, vs0, d0, ds0, p0, q0, hargs, rfl, rfl, h0, r0⟩ := trodAll_cons hA
  obtain ⟨v1, vs1, d1, ds1, p1, q1, rfl, rfl, rfl, h1, r1⟩ := trodAll_cons r0
  obtain ⟨rfl, rfl, rfl⟩ := trodAll_nil r1
  obtain rfl : args = #[v0, v1] := by cases args; simp_all
  obtain ⟨rfl, rfl⟩ := trodVars_none hV
  have k0 := h0
  have lt0 : ∀ x ∈ p0, x.block < W.heap.size := by obtain ⟨m, hm⟩ := k0; exact DataW.trod_lt m _ _ _ hm
  have k1 := h1
  have lt1 : ∀ x ∈ p1, x.block < W.heap.size := by obtain ⟨m, hm⟩ := k1; exact DataW.trod_lt m _ _ _ hm
  obtain ⟨a0, rfl, _, _, w0⟩ := open_int Try.underlying5 (hval 0 5 v0 rfl rfl) h0
  obtain ⟨s1, len1, cap1, rfl⟩ := okWide_slice Try.underlying59 (hval 1 59 v1 rfl rfl)
  obtain ⟨V1, hc1, hr1⟩ := rows_in Try.underlying59 (flat_int Try.underlying5 (by kernel_rfl)) (by decide) h1
  clear hA0 hval0
  refine (walk a0 s1 len1 cap1 V1 W (bounds_u8 w0) hc1 hr1).mono fun e W' ⟨he, bel⟩ => ?_
  subst he
  exact ⟨_, rfl, _, _, _, [], _, [], hW', trodAll_mk1 (shut_bool Try.underlying4 _), (trodAll_cons_mk (Below.trod laidOut (by kernel_rfl) (of_decide_eq_true (by kernel_rfl)) k0 bel lt0) (trodAll_cons_mk (Below.trod laidOut (by kernel_rfl) (of_decide_eq_true (by kernel_rfl)) k1 bel lt1) trodAll_mk0)), rfl, bel.frame _, fun h => by cases h⟩
theorem holds : Rows.arenaCopiesRow.holds Try.pinned (OpenSpec.ofChange Rows.arenaCopiesSpec) :=
  OpenClaim.holds_of_wide 11 Try.f11 rfl rfl rfl rfl rfl rfl rfl ⟨rfl, rfl, rfl, rfl, rfl⟩ rfl rfl rfl rfl rfl (by kernel_rfl) Try.func11 (by kernel_rfl)
    (of_decide_eq_true (by kernel_rfl)) (by unfold Func.isWrapper; first | (rw [if_pos (by decide +kernel)]; kernel_rfl) | (rw [if_neg (by decide +kernel)]; exact ⟨rfl, rfl⟩))
    (fun os started H enc _ => lifted os started H enc)
theorem proved : Rows.ArenaCopiesSaid := holds
end lawCopies
end Go.Proofs.Ytflblojmjdlhiaa
