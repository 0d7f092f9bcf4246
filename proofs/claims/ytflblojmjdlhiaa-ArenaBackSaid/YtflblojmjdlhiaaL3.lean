/- ArenaBack: the law answers true at every argument: slots that are freed are allocated again in the opposite order, and then the fresh ones. No condition. -/
import Derived.Test.YtflblojmjdlhiaaN
import Derived.Test.YtflblojmjdlhiaaOp
import Derived.Test.YtflblojmjdlhiaaRows
import Derived.Deep.CutRange
set_option linter.unusedVariables false
set_option linter.unusedSimpArgs false
namespace Go.Proofs.Ytflblojmjdlhiaa
open Go.RowKit
namespace lawBack
open Go.ChangeShapes Go.WideShapes Go.ChangeAt Go.RowKit Go.Joins
set_option maxRecDepth 100000 in
set_option maxHeartbeats 8000000 in
theorem walk (a0 : Int) (a1 : Int) (s2 : Option Addr) (len2 cap2 : Nat) (V2 : Nat → Nat → Int) (w : World) (b0 : 0 ≤ a0 ∧ a0 ≤ 65535) (b1 : 0 ≤ a1 ∧ a1 ≤ 65535) (hc2 : len2 ≤ cap2 ∧ cap2 ≤ maxLen) (hr2 : RowsI w s2 [.u16] len2 V2) : Calls Try.prog 7 #[.int .u16 a0, .int .u16 a1, .slice s2 len2 cap2] w fun e w' => e = .returned (.bool true) ∧ Below w.heap.size w w' := by
  obtain ⟨s, rfl⟩ : ∃ s : Nat, a0 = (s : Int) := ⟨a0.toNat, by omega⟩
  obtain ⟨u, rfl⟩ : ∃ u : Nat, a1 = (u : Int) := ⟨a1.toNat, by omega⟩
  have hp := up22
  have mt := made_t s u (by omega) (by omega) w
  obtain ⟨n, hn⟩ : ∃ n, n = 1 + s % 300 := ⟨_, rfl⟩
  rw [← hn] at mt
  obtain ⟨m, hm⟩ : ∃ m, m = u % (n + 1) := ⟨_, rfl⟩
  rw [← hm] at mt
  have HN := hide (show (0 < n ∧ n ≤ 300) ∧ m ≤ n by have := Nat.mod_lt u (show 0 < n + 1 by omega); omega)
  have MT := hide mt
  have HR := hide hr2
  have HC := hide hc2
  clear hn hm b0 b1 mt hr2 hc2
  go_enter Try.func7, Try.ntmps7
  go_wp2_with fail
  refine MT.out.mono ?_
  rintro e w1 ⟨b, rfl, h1⟩
  have H1 := hide h1
  clear h1 MT
  iterate 59 (first | go_values | go_skip | go_guarded | go_step | go_upon | go_back | go_simp)
  go_cut [10] from 24 (fun l wr => ∃ F, Hid (BackI w wr b n m F l))
  case first =>
    go_wp2_with fail
    go_loopw [10, 11] (fun l i wr => ∃ (k : Nat) (F : List Nat), i = .int .i64 (k : Int) ∧ Hid (k ≤ 300) ∧ Hid (BackI w wr b n m F l)) (fun _ i _ => 300 - (intOf i).toNat)
    case atStart => exact ⟨0, [], rfl, Nat.zero_le _, ⟨H1.out, World.ownsRow_nil _ _ _ _, List.nodup_nil, by simp⟩⟩
    case round =>
      obtain ⟨k, F, rfl, hk, hB⟩ := hrel
      have e300 : (300 : Int) = ((300 : Nat) : Int) := rfl
      by_cases hc : k < len2 ∧ k < 300 ∧ 0 < m
      · obtain ⟨c1, c2, c3⟩ := hc
        obtain ⟨bb, off, hs, hbb, hcell, hwf⟩ := rowsI_one HR.out c1
        obtain ⟨z, hz⟩ : ∃ z : Nat, V2 k 0 = (z : Int) := ⟨(V2 k 0).toNat, by have := bounds_u16 hwf; omega⟩
        rw [hz] at hcell
        have hz2 : z ≤ 65535 := by have := bounds_u16 hwf; omega
        have cell : wr.cell? ⟨bb, off + k, none⟩ = some (.int .u16 (z : Int)) := by
          rw [hB.out.has.below.cell (p := ⟨bb, off + k, none⟩) hbb]; exact hcell
        have d1 : decide (k < len2) = true := by simpa using c1
        have d2 : decide ((k : Int) < 300) = true := by simp; omega
        have d3 : decide (0 < m) = true := by simpa using c3
        have m0 : ¬ (m : Int) = 0 := by omega
        have m1 : ¬ m = 0 := by omega
        obtain ⟨x, hx⟩ : ∃ x, x = z % m := ⟨_, rfl⟩
        have ex : (z : Int) % (m : Int) = (x : Int) := by rw [hx]; norm_cast
        have hxm : x < m := by rw [hx]; exact Nat.mod_lt _ c3
        have ww : IntKind.i64.wrap ((k : Int) + 1) = (k : Int) + 1 := by rw [IntKind.wrap_i64]; omega
        have wz : IntKind.i64.wrap (z : Int) = (z : Int) := by rw [IntKind.wrap_i64]; omega
        obtain ⟨fu, fe, ff⟩ := back_free n m F x hxm HN.out.2
        have K2 := hide c2
        have HX := hide hxm
        have hO : Hid (∀ y ∈ u10.ownBlock.toList ++ [], y < wr.heap.size) := fun y hy => row_own hB.out.row y (by simpa using hy)
        subst hs
        clear hx hxm c2 c3 hz hz2 hwf hcell hbb e300
        by_cases hf : x ∈ F
        · have fu' : (Ar.mk n (List.replicate m 1) F.reverse).used (x : Int) = false := by rw [fu]; simp [hf]
          rw [if_pos hf] at fe ff
          have FU := hide fu'
          have FE := hide fe
          have FF := hide ff
          clear fu fu' fe ff hf
          go_wp2_with (first | (go_at_call 23; refine (h_used hB.out.has _ _ FU.out).mono ?_; rintro e w' ⟨rfl, rfl⟩) | (go_at_call 18; refine (h_free hB.out.has hO.out _ _ _ FE.out FF.out).mono ?_; rintro e w2 ⟨rfl, h2, s2⟩; have H2 := hide h2; have S2 := hide s2; clear h2 s2))
          go_roundw
          case rel => exact ⟨k + 1, F, by go_num, by have := K2.out; show k + 1 ≤ 300; omega, ⟨H2.out, S2.out.row hB.out.row (fun y hy => by simp [hy]), hB.out.nd, hB.out.lt⟩⟩
          case measure => have := K2.out; simp [intOf]; omega
        · have fu' : (Ar.mk n (List.replicate m 1) F.reverse).used (x : Int) = true := by rw [fu]; simp [hf]
          rw [if_neg hf] at fe ff
          have FU := hide fu'
          have FE := hide fe
          have FF := hide ff
          have HF := hide hf
          have FL : Hid (F.length ≤ 300) := by
            have := nodup_le m F hB.out.nd hB.out.lt
            have := HN.out
            show F.length ≤ 300
            omega
          clear fu fu' fe ff hf
          obtain ⟨i0, hi, hz0, hz1, hz2⟩ := info_parts info3
          have HI := hide (And.intro hi (And.intro hz0 (And.intro hz1 hz2)))
          clear hi hz0 hz1 hz2
          go_wp2_with (first | (go_at_call 23; refine (h_used hB.out.has _ _ FU.out).mono ?_; rintro e w' ⟨rfl, rfl⟩) | (go_at_call 18; refine (h_free hB.out.has hO.out _ _ _ FE.out FF.out).mono ?_; rintro e w2 ⟨rfl, h2, s2⟩; have H2 := hide h2; have S2 := hide s2; clear h2 s2) | (at_builtin; refine wpList_append_new _ rfl _ _ 51 rfl w.heap.size 3 i0 (.int .i64 0) 1 8 Try.underlying51 HI.out.1 HI.out.2.1 HI.out.2.2.1 HI.out.2.2.2 rfl (by decide) u10 F.length (ints F) rfl ((S2.out.row hB.out.row (fun y hy => by simp [hy])).alloc _) ⟨w2.heap.size, 0, none⟩ 1 1 [.int .i64 (x : Int)] rfl rfl (one_src w2 _ 3) (by simp [Value.oneCell']) (by have := FL.out; unfold maxLen; omega) (by have := FL.out; omega) (by have := H2.out.below.size; simp; omega) ?_))
          intro v' w' ho hg hn
          have HB2 : Hid (BackI w w' b n m (F ++ [x]) v') := by
            refine ⟨?_, ?_, ?_, ?_⟩
            · have k1 : Kp [] w2 (w2.alloc (.cells #[Value.int .i64 (x : Int)] 3)) := .of_below ((Below.refl _ _).alloc (Nat.le_refl _) _)
              exact ((H2.out.step (fun y hy => by have := hO.out y hy; have := S2.out.size; omega) k1).1).grow hg (by simpa using hn) (fun y hy => (hB.out.row.lt y hy).1)
            · rw [List.length_append]
              unfold ints
              rw [List.map_append]
              exact ho
            · exact List.nodup_append.2 ⟨hB.out.nd, by simp, fun a ha c hc => by simp at hc; subst hc; exact fun e => HF.out (e ▸ ha)⟩
            · intro y hy
              simp at hy
              rcases hy with hy | rfl
              · exact hB.out.lt y hy
              · exact HX.out
          clear ho hg hn
          go_wp2_with fail
          go_roundw
          case rel => exact ⟨k + 1, F ++ [x], by go_num, by have := K2.out; show k + 1 ≤ 300; omega, HB2⟩
          case measure => have := K2.out; simp [intOf]; omega
      · have hcc : k ≥ len2 ∨ (k < len2 ∧ k ≥ 300) ∨ (k < len2 ∧ k < 300 ∧ m = 0) := by omega
        clear hc e300
        rcases hcc with h | ⟨h, h'⟩ | ⟨h, h', h''⟩
        · have d1 : decide (k < len2) = false := by simp; omega
          clear h
          go_wp2_with fail
          go_meet
          case rel => exact ⟨F, hB⟩
        · have d1 : decide (k < len2) = true := by simpa using h
          have d2 : decide ((k : Int) < 300) = false := by simp; omega
          clear h h'
          go_wp2_with fail
          go_meet
          case rel => exact ⟨F, hB⟩
        · have d1 : decide (k < len2) = true := by simpa using h
          have d2 : decide ((k : Int) < 300) = true := by simp; omega
          have d3 : decide (0 < m) = false := by simp; omega
          clear h h' h''
          go_wp2_with fail
          go_meet
          case rel => exact ⟨F, hB⟩
  case rest =>
    obtain ⟨F, hB⟩ := hcut
    obtain ⟨p, c, rfl⟩ := row_slice hB.out.row
    have FL : Hid (F.length ≤ 300) := by
      have := nodup_le m F hB.out.nd hB.out.lt
      have := HN.out
      show F.length ≤ 300
      omega
    have ww : IntKind.i64.wrap ((F.length : Int) - 1) = (F.length : Int) - 1 := by have := FL.out; rw [IntKind.wrap_i64]; omega
    go_wp2_with fail
    go_loopw [15] (fun j wr => ∃ k : Nat, j = .int .i64 ((k : Int) - 1) ∧ Hid (k ≤ F.length) ∧ Hid (Has w.heap.size w wr b ⟨n, T2 m (F.drop k), (F.take k).reverse⟩ (Value.slice p F.length c).ownBlock.toList) ∧ Hid (wr.ownsRow w.heap.size 3 1 (.slice p F.length c) F.length (ints F))) (fun j _ => (intOf j + 1).toNat)
    case atStart =>
      refine ⟨F.length, rfl, Nat.le_refl _, ?_, hB.out.row⟩
      show Has _ _ _ _ _ _
      rw [List.drop_length, List.take_length, T2_nil]
      exact hB.out.has.sub (fun x hx => by simp [hx])
    case round =>
      obtain ⟨k, rfl, hk, hH, hW⟩ := hrel
      rcases k with _ | k
      · have ee : ((((0 : Nat) : Int)) - 1) = -1 := rfl
        rw [ee]
        have hT := T2_len m F
        have H3 : Hid (Has w.heap.size w wr b ⟨n, T2 m F, []⟩ []) := hH.out.sub (fun x hx => by cases hx)
        clear hH hW hk ww
        go_wp2_with fail
        go_loopw [20] (fun j wr => ∃ T : List Int, j = .int .i64 (T.length : Int) ∧ Hid (T.length ≤ n) ∧ Hid (Has w.heap.size w wr b ⟨n, T, []⟩ [])) (fun j _ => n - (intOf j).toNat)
        case atStart => exact ⟨T2 m F, by rw [hT], by have := HN.out; show (T2 m F).length ≤ n; omega, H3⟩
        case round =>
          obtain ⟨T, rfl, hT2, hH⟩ := hrel
          by_cases hlt : T.length < n
          · obtain ⟨ea, eb, ec⟩ := fresh_alloc n T hlt
            have eT : (T ++ [1]).length = T.length + 1 := by simp
            obtain ⟨t, ht⟩ : ∃ t, t = T.length := ⟨_, rfl⟩
            rw [← ht] at ea ec hlt eT ⊢
            have dk : decide (t < n) = true := by simpa using hlt
            have ww : IntKind.i64.wrap ((t : Int) + 1) = (t : Int) + 1 := by have := HN.out; rw [IntKind.wrap_i64]; omega
            have EA := hide ea
            have EB := hide eb
            have EC := hide ec
            have ET := hide eT
            have HL := hide hlt
            clear ea eb ec eT ht hlt hT
            go_wp2_with (first | (go_at_call 16; refine (h_alloc hH.out (by simp) _ _ EA.out EB.out).mono ?_; rintro e w2 ⟨rfl, h2, _⟩; have H2 := hide h2; clear h2) | (go_at_call 24; refine (h_times H2.out _ _ EC.out).mono ?_; rintro e w' ⟨rfl, rfl⟩))
            go_roundw
            case rel => exact ⟨T ++ [1], by rw [ET.out]; go_num, by have := HL.out; show (T ++ [1]).length ≤ n; rw [ET.out]; omega, H2⟩
            case measure => have := HL.out; simp [intOf]; omega
          · have he : T.length = n := by have := hT2.out; omega
            have EL : Hid ((((Ar.mk n T []).len : Nat) : Int) = (n : Int)) := by
              show (((Ar.mk n T []).len : Nat) : Int) = (n : Int)
              simp [Ar.len, he]
            rw [he]
            have dk : decide (n < n) = false := by simp
            clear hlt he hT
            go_wp2_with (first | (go_at_call 25; refine (h_len hH.out _ EL.out).mono ?_; rintro e w' ⟨rfl, rfl⟩) | (go_at_call 15; refine (works _).mono ?_; rintro e w5 ⟨rfl, b5⟩; have H5 := hide b5; clear b5))
            go_ret
            exact ⟨by simp, hH.out.below.trans (H5.out.mono hH.out.below.size)⟩
      · have ee : ((((k + 1 : Nat) : Int)) - 1) = (k : Int) := by omega
        rw [ee]
        have hk2 : k < F.length := hk.out
        obtain ⟨na, nb, nc, nd⟩ := back_alloc n m F k hk2 hB.out.nd hB.out.lt
        obtain ⟨g, rfl, hcell, hfz, _⟩ := row_cell hW.out hk2
        have hx : (ints F)[k]? = some (.int .i64 ((F.getD k 0 : Nat) : Int)) := by simp [ints, List.getD, hk2]
        have hlt : k < F.length := hk2
        have dk : decide (k < F.length) = true := by simpa using hk2
        have d0 : decide ((0 : Int) ≤ (k : Int)) = true := by simp
        have ww2 : IntKind.i64.wrap ((k : Int) - 1) = (k : Int) - 1 := by have := FL.out; rw [IntKind.wrap_i64]; omega
        generalize F.getD k 0 = x at *
        have NA := hide na
        have NB := hide nb
        have NC := hide nc
        have ND := hide nd
        have HX := hide hx
        have HL := hide hk2
        have hO : Hid (∀ y ∈ (Value.slice (some ⟨g, 0, none⟩) F.length c).ownBlock.toList, y < wr.heap.size) := fun y hy => row_own hW.out y hy
        clear na nb nc nd hx hk2 hlt hcell hfz ww
        go_wp2_with (first | (go_at_call 22; refine (h_next hH.out hO.out _ NA.out).mono ?_; rintro e w2 ⟨rfl, h2, s2⟩; have H2 := hide h2; have S2 := hide s2; clear h2 s2) | (go_at_call 16; refine (h_alloc H2.out (fun y hy => by have := hO.out y hy; have := S2.out.size; omega) _ _ NB.out NC.out).mono ?_; rintro e w3 ⟨rfl, h3, s3⟩; have H3 := hide h3; have W3 := hide (s3.row (S2.out.row hW.out (fun y hy => by simp [hy])) (fun y hy => by simp [hy])); have c3 : w3.cell? ⟨g, k, none⟩ = some (.int .i64 (x : Int)) := (W3.out.cellAt k (by have := HL.out; omega)).trans HX.out; clear h3 s3) | (go_at_call 24; refine (h_times H3.out _ _ ND.out).mono ?_; rintro e w' ⟨rfl, rfl⟩))
        go_roundw
        case rel => exact ⟨k, by go_num, by have := HL.out; show k ≤ F.length; omega, H3, W3⟩
        case measure => simp [intOf]
theorem own : ownKnob Try.prog.godebug = none := by kernel_rfl
theorem laidOut : laidOutB Try.prog = true := by kernel_rfl
set_option maxRecDepth 100000 in
theorem lifted (os : Os) (started : os.Started) (H : Type) (enc : TypeId × Value → H) :
    ReturnsInHanded {} Try.checked os 7 .any (Rows.arenaBackSpec.pre6 enc Try.prog Try.f7 Rows.arenaBackRow.domain false) (Rows.arenaBackSpec.post enc Try.prog Try.f7 false true false false) := by
  refine returnsInHanded_of_change (C := Try.checked) own started (by kernel_rfl) Try.func7
    (ChangeSpec.witness6 (enc := enc) (C := Try.checked) false ⟨#[], #[.int .u16 0, .int .u16 0, .slice none 0 0], []⟩ 8 (by kernel_rfl) (by kernel_rfl) (by kernel_rfl) (by kernel_rfl)) ?_
  intro W base args ds gs before hval0 hW hcnd _
  have hval : ∀ (j : Nat) t v, Try.f7.params[j]? = some t → args[j]? = some v → Value.okWide Try.prog W .any base t v := hval0
  have hW' := hW
  obtain ⟨p, q, hA0, hV, rfl, hfz, hnd⟩ := hW
  have hA : DataW.TrodAll enc Try.prog W 0 (fun _ => true) true Try.f7.params.toList args.toList ds p := hA0
  rw [Try.params7] at hA hval
  obtain ⟨v0, vs0, d0, ds0, p0, q0, hargs, rfl, rfl, h0, r0⟩ := trodAll_cons hA
  obtain ⟨v1, vs1, d1, ds1, p1, q1, rfl, rfl, rfl, h1, r1⟩ := trodAll_cons r0
  obtain ⟨v2, vs2, d2, ds2, p2, q2, rfl, rfl, rfl, h2, r2⟩ := trodAll_cons r1
  obtain ⟨rfl, rfl, rfl⟩ := trodAll_nil r2
  obtain rfl : args = #[v0, v1, v2] := by cases args; simp_all
  obtain ⟨rfl, rfl⟩ := trodVars_none hV
  have k0 := h0
  have lt0 : ∀ x ∈ p0, x.block < W.heap.size := by obtain ⟨m, hm⟩ := k0; exact DataW.trod_lt m _ _ _ hm
  have k1 := h1
  have lt1 : ∀ x ∈ p1, x.block < W.heap.size := by obtain ⟨m, hm⟩ := k1; exact DataW.trod_lt m _ _ _ hm
  have k2 := h2
  have lt2 : ∀ x ∈ p2, x.block < W.heap.size := by obtain ⟨m, hm⟩ := k2; exact DataW.trod_lt m _ _ _ hm
  obtain ⟨a0, rfl, _, _, w0⟩ := open_int Try.underlying53 (hval 0 53 v0 rfl rfl) h0
  obtain ⟨a1, rfl, _, _, w1⟩ := open_int Try.underlying53 (hval 1 53 v1 rfl rfl) h1
  obtain ⟨s2, len2, cap2, rfl⟩ := okWide_slice Try.underlying57 (hval 2 57 v2 rfl rfl)
  obtain ⟨V2, hc2, hr2⟩ := rows_in Try.underlying57 (flat_int Try.underlying53 (by kernel_rfl)) (by decide) h2
  clear hA0 hval0
  refine (walk a0 a1 s2 len2 cap2 V2 W (bounds_u16 w0) (bounds_u16 w1) hc2 hr2).mono fun e W' ⟨he, bel⟩ => ?_
  subst he
  exact ⟨_, rfl, _, _, _, [], _, [], hW', trodAll_mk1 (shut_bool Try.underlying4 _), (trodAll_cons_mk (Below.trod laidOut (by kernel_rfl) (of_decide_eq_true (by kernel_rfl)) k0 bel lt0) (trodAll_cons_mk (Below.trod laidOut (by kernel_rfl) (of_decide_eq_true (by kernel_rfl)) k1 bel lt1) (trodAll_cons_mk (Below.trod laidOut (by kernel_rfl) (of_decide_eq_true (by kernel_rfl)) k2 bel lt2) trodAll_mk0))), rfl, bel.frame _, fun h => by cases h⟩
theorem holds : Rows.arenaBackRow.holds Try.pinned (OpenSpec.ofChange Rows.arenaBackSpec) :=
  OpenClaim.holds_of_wide 7 Try.f7 rfl rfl rfl rfl rfl rfl rfl ⟨rfl, rfl, rfl, rfl, rfl⟩ rfl rfl rfl rfl rfl (by kernel_rfl) Try.func7 (by kernel_rfl)
    (of_decide_eq_true (by kernel_rfl)) (by unfold Func.isWrapper; first | (rw [if_pos (by decide +kernel)]; kernel_rfl) | (rw [if_neg (by decide +kernel)]; exact ⟨rfl, rfl⟩))
    (fun os started H enc _ => lifted os started H enc)
theorem proved : Rows.ArenaBackSaid := holds
end lawBack
end Go.Proofs.Ytflblojmjdlhiaa
