/- MsortKnown holds: the examples of the chapter, and the limits. -/
import Derived.Test.YtiebmjdclicheaaMZb
import Derived.Test.YtiebmjdclicheaaOp
import Derived.Test.YtiebmjdclicheaaRows
import Derived.Deep.CutRange
import Derived.StillTailTactics
set_option linter.unusedVariables false
set_option linter.unusedSimpArgs false
namespace Go.Proofs.Ytiebmjdclicheaa
open Go.RowKit
theorem RdR.take {w : World} {p : Option Addr} {l : List R4} (h : RdR w p l) (i : Nat) : RdR w p (l.take i) := by
  rcases h with rfl | ⟨b, off, rfl, hb, hc⟩
  · exact .inl (by simp)
  · refine .inr ⟨b, off, rfl, hb, fun j x hx => hc j x ?_⟩
    rw [List.getElem?_take] at hx; split at hx
    · exact hx
    · cases hx
theorem made_recs (n : Nat) : (madeCells #[.int .u64 0, .int .u64 0, .int .i64 0, .int .i64 0] (n * 4)).toList = rows (List.replicate n zz) := by
  apply List.ext_getElem?
  intro t
  by_cases ht : t < n * 4
  · have e : t = t / 4 * 4 + t % 4 := by omega
    have hx : (List.replicate n zz)[t / 4]? = some zz := by rw [List.getElem?_replicate, if_pos (by omega)]
    have hr := rows_get (List.replicate n zz) (t / 4) (t % 4) zz hx (by omega)
    rw [← e] at hr
    rw [hr]
    have h4 : t % 4 = 0 ∨ t % 4 = 1 ∨ t % 4 = 2 ∨ t % 4 = 3 := by omega
    rcases h4 with h | h | h | h <;> simp [madeCells, ht, h, R4.cells, zz]
  · rw [List.getElem?_eq_none (by simp [size_madeCells]; omega), List.getElem?_eq_none (by rw [rows_len]; simp; omega)]
theorem build_a (w : World) : (Instr.build 24 #[(0, .int .u64 2), (1, .int .u64 1)]).run Try.prog w = .ok (.agg #[.int .u64 2, .int .u64 1, .int .i64 0, .int .i64 0]) w := by kernel_rfl
theorem build_b (w : World) : (Instr.build 24 #[(0, .int .u64 1), (1, .int .u64 2), (2, .int .i64 9), (3, .int .i64 9)]).run Try.prog w = .ok (.agg #[.int .u64 1, .int .u64 2, .int .i64 9, .int .i64 9]) w := by kernel_rfl
theorem build_c (w : World) : (Instr.build 24 #[(0, .int .u64 3), (1, .int .u64 1)]).run Try.prog w = .ok (.agg #[.int .u64 3, .int .u64 1, .int .i64 0, .int .i64 0]) w := by kernel_rfl
theorem build_d (w : World) : (Instr.build 24 #[(0, .int .u64 9), (1, .int .u64 9), (2, .int .i64 2)]).run Try.prog w = .ok (.agg #[.int .u64 9, .int .u64 9, .int .i64 2, .int .i64 0]) w := by kernel_rfl
theorem ex_sort : sortA 1 ex4 = [⟨7, 8, -1, 3⟩, ⟨3, 4, 2, 1⟩, ⟨1, 2, 5, 0⟩, ⟨5, 6, 5, 2⟩] := by decide
theorem ex_merge : mergeA 1 [⟨7, 8, -1, 3⟩, ⟨3, 4, 2, 1⟩, ⟨1, 2, 5, 0⟩, ⟨5, 6, 5, 2⟩] [⟨9, 9, 2, 0⟩] = [⟨7, 8, -1, 3⟩, ⟨3, 4, 2, 1⟩, ⟨9, 9, 2, 0⟩, ⟨1, 2, 5, 0⟩, ⟨5, 6, 5, 2⟩] := by decide
theorem ex_mergeE : mergeE 1 [⟨7, 8, -1, 3⟩, ⟨3, 4, 2, 1⟩, ⟨1, 2, 5, 0⟩, ⟨5, 6, 5, 2⟩] [⟨9, 9, 2, 0⟩] = 0 := by decide
theorem ex_two (w : World) : HR (w.alloc (.cells #[.int .u64 1, .int .u64 2, .int .i64 5, .int .i64 0, .int .u64 3, .int .u64 4, .int .i64 2, .int .i64 1, .int .u64 5, .int .u64 6, .int .i64 5, .int .i64 2, .int .u64 7, .int .u64 8, .int .i64 (-1), .int .i64 3] 24)) (.slice (some ⟨w.heap.size, 0, none⟩) 2 4) (ex4.take 2) := ⟨_, 4, rfl, ⟨by decide, by unfold maxLen; decide⟩, (ex_read w).take 2⟩
theorem ex_two8 : mergeE 1 (ex4.take 2) [] = 8 := by decide
theorem ex_two2 : mergeE 4 (ex4.take 2) [] = 2 := by decide
theorem HP.some (b off n c : Nat) : HP (.slice (some ⟨b, off, none⟩) n c) := ⟨_, _, _, rfl, .inr ⟨b, off, rfl⟩⟩
theorem nil_HR (w : World) : HR w (.slice none 0 0) [] := (HR.row (l := []) (World.ownsRow_nil w 0 _ _)).1
theorem HR.cells {w : World} {v : Value} {l : List R4} (h : HR w v l) (h0 : l ≠ []) : ∃ b off c, v = .slice (some ⟨b, off, none⟩) l.length c ∧ ∀ i, i < l.length → At4 w b (off + i * 4) (l.getD i zz) := by
  obtain ⟨p, c, rfl, hc, hr⟩ := h
  obtain ⟨b, off, rfl, _, hat⟩ := rdr_at hr h0
  exact ⟨b, off, c, rfl, hat⟩
theorem HR.hi1 {w : World} {g n c : Nat} {l : List R4} (h : HR w (.slice (some ⟨g, 0, none⟩) n c) l) (h1 : 1 ≤ l.length) : ∃ v1, (∀ W, (Instr.slice 31 (.slice (some ⟨g, 0, none⟩) n c) (some (.int .i64 1)) none none).run Try.prog W = .ok v1 W) ∧ HR w v1 (l.drop 1) ∧ HP v1 := by
  obtain ⟨p', c', he, hc, hr⟩ := h
  injection he with e1 e2 e3
  subst e2; subst e3; subst e1
  have hh : HR w (.slice (some ⟨g, 0, none⟩) l.length c) l := ⟨_, c, rfl, hc, hr⟩
  obtain ⟨v1, r, h2⟩ := HR.hi hh h1
  refine ⟨v1, fun W => r W, h2, ?_⟩
  have e := r w
  rw [run_slice_l w 31 _ l.length c elem31 .i64 ((1 : Nat) : Int) (by omega) (by omega), size31] at e
  injection e with e _
  rw [← e]
  unfold sliced
  split
  · exact ⟨_, _, _, rfl, .inr ⟨g, 0, rfl⟩⟩
  · exact ⟨_, _, _, rfl, .inr ⟨g, 0 + 1 * 4, rfl⟩⟩
theorem HR.lo1 {w : World} {v : Value} {l : List R4} (h : HR w v l) (h1 : 1 ≤ l.length) : ∃ v1, (∀ W, (Instr.slice 31 v none (some (.int .i64 1)) none).run Try.prog W = .ok v1 W) ∧ HR w v1 (l.take 1) := by
  obtain ⟨v1, r, h2⟩ := HR.lo h h1
  exact ⟨v1, fun W => r W, h2⟩
namespace lawKnown
open Go.ChangeShapes Go.WideShapes Go.ChangeAt Go.RowKit Go.Joins
set_option maxRecDepth 100000 in
set_option maxHeartbeats 16000000 in
theorem walk (w : World) : Calls Try.prog 11 #[] w fun e w' => e = .returned (.bool true) ∧ Below w.heap.size w w' := by
  have EX := hide example_t
  have WK := hide works_t
  have S4 := hide (fun W v (h : HR W v ex4) => sort_h (k := 1) h)
  rw [show chk ex4.length 1 = 0 by decide, ex_sort] at S4
  have L1 := hide (lessP_t ⟨2, 1, 0, 0⟩ ⟨1, 2, 9, 9⟩ 3)
  rw [show lessA 3 ⟨2, 1, 0, 0⟩ ⟨1, 2, 9, 9⟩ = false by decide, show lessE 3 = 0 by decide] at L1
  have L2 := hide (lessP_t ⟨1, 2, 9, 9⟩ ⟨3, 1, 0, 0⟩ 3)
  rw [show lessA 3 ⟨1, 2, 9, 9⟩ ⟨3, 1, 0, 0⟩ = true by decide, show lessE 3 = 0 by decide] at L2
  unfold R4.val at L1 L2
  have ba := build_a
  have bb := build_b
  have bc := build_c
  have bd := build_d
  have lt := litR 9 9 2 0
  obtain ⟨i0, hi, hz0, hz1, hz2⟩ := infoParts infoR
  have HI := hide (And.intro hi (And.intro hz0 (And.intro hz1 hz2)))
  clear hi hz0 hz1 hz2
  go_enter Try.func11, Try.ntmps11
  go_wp2_with fail
  refine (EX.out _).mono ?_
  rintro e w1 ⟨rfl, hw1⟩
  have HX := hide (show HR w1 (.slice (some ⟨w.heap.size, 0, none⟩) 4 4) ex4 by rw [hw1]; exact ⟨_, 4, rfl, ⟨by decide, by unfold maxLen; decide⟩, ex_read w⟩)
  have K1 := hide (show Kp [] w w1 by rw [hw1]; exact Kp.alloc _ _)
  have SS := hide (S4.out _ _ HX.out)
  clear hw1
  go_wp2_with fail
  refine SS.out.mono ?_
  rintro e w2 ⟨vs, rfl, hs, ps, k2⟩
  have K2 := hide (K1.out.trans0 k2)
  have HS := hide hs
  have PS := hide ps
  clear hs ps k2
  go_wp2_with fail
  refine (L1.out _).mono ?_
  rintro e w3 ⟨rfl, k3⟩
  have K3 := hide (K2.out.trans0 k3)
  have HS3 := hide (HS.out.keep k3)
  clear k3
  go_wp2_with fail
  refine (L2.out _).mono ?_
  rintro e w4 ⟨rfl, k4⟩
  have K4 := hide (K3.out.trans0 k4)
  have HS4 := hide (HS3.out.keep k4)
  obtain ⟨b, off, c, rfl, hat⟩ := HS4.out.cells (by simp)
  have e0 := (hat 0 (by decide)).1
  have e1 := (hat 1 (by decide)).1
  have e2 := (hat 2 (by decide)).1
  have e3 := (hat 3 (by decide)).1
  simp only [List.getD_cons_zero, List.getD_cons_succ, Nat.zero_mul, Nat.add_zero, Nat.reduceMul, Nat.one_mul] at e0 e1 e2 e3
  simp only [List.length_cons, List.length_nil, Nat.zero_add, Nat.reduceAdd]
  clear hat k4
  go_wp2_with fail
  have H9 := hide (show HR (w4.alloc (.cells #[.int .u64 9, .int .u64 9, .int .i64 2, .int .i64 0] 24)) (.slice (some ⟨w4.heap.size, 0, none⟩) 1 1) [⟨9, 9, 2, 0⟩] from ⟨_, 1, rfl, ⟨by decide, by unfold maxLen; decide⟩, .inr ⟨w4.heap.size, 0, rfl, by simp, fun i x hx => by
    match i, hx with
    | 0, hx => cases hx; exact at4_blk (x := ⟨9, 9, 2, 0⟩) (heap_alloc_new w4 _)⟩⟩)
  have MG := hide (merge_h (k := 1) (HS4.out.keep (Kp.alloc w4 (.cells #[.int .u64 9, .int .u64 9, .int .i64 2, .int .i64 0] 24))) PS.out H9.out (by decide))
  rw [ex_mergeE, ex_merge] at MG
  have K5 := hide (K4.out.allocK (.cells #[.int .u64 9, .int .u64 9, .int .i64 2, .int .i64 0] 24))
  clear e0 e1 e2 e3
  refine MG.out.mono ?_
  rintro e w6 ⟨vm, rfl, hm, pm, k6⟩
  have K6 := hide (K5.out.trans0 k6)
  obtain ⟨b2, off2, c2, rfl, hat⟩ := hm.cells (by simp)
  have e1 := (hat 1 (by decide)).1
  have e2 := (hat 2 (by decide)).1
  have e3 := (hat 3 (by decide)).1
  simp only [List.getD_cons_zero, List.getD_cons_succ, Nat.zero_mul, Nat.add_zero, Nat.reduceMul, Nat.one_mul] at e1 e2 e3
  simp only [List.length_cons, List.length_nil, Nat.zero_add, Nat.reduceAdd]
  clear hat hm pm k6 ba bb bc bd lt
  go_wp2_with fail
  refine (EX.out _).mono ?_
  rintro e w7 ⟨rfl, hw7⟩
  have M8 := hide (show _ from merge_h (k := 1) (ex_two w6) (HP.some _ _ _ _) (nil_HR _) (by decide))
  rw [← hw7, ex_two8] at M8
  have K7 := hide (show Kp [] w w7 by rw [hw7]; exact K6.out.allocK _)
  clear hw7 e1 e2 e3
  go_wp2_with fail
  refine M8.out.mono ?_
  rintro e w8 ⟨v8, rfl, _, _, k8⟩
  have K8 := hide (K7.out.trans0 k8)
  clear k8
  go_wp2_with fail
  refine (EX.out _).mono ?_
  rintro e w9 ⟨rfl, hw9⟩
  have M9 := hide (show _ from merge_h (k := 4) (ex_two w8) (HP.some _ _ _ _) (nil_HR _) (by decide))
  rw [← hw9, ex_two2] at M9
  have K9 := hide (show Kp [] w w9 by rw [hw9]; exact K8.out.allocK _)
  clear hw9
  go_wp2_with fail
  refine M9.out.mono ?_
  rintro e w10 ⟨v10, rfl, _, _, k10⟩
  have K10 := hide (K9.out.trans0 k10)
  clear k10
  obtain ⟨n, hn⟩ : ∃ n : Nat, n = 65537 := ⟨_, rfl⟩
  have HN := hide hn
  clear hn
  go_wp2_with (refine wpList_make_full w10 rfl _ _ 31 rfl w.heap.size 24 i0 (.agg #[.int .u64 0, .int .u64 0, .int .i64 0, .int .i64 0]) 4 Try.underlying31 HI.out.1 HI.out.2.1 HI.out.2.2.1 .i64 .i64 65537 65537 n rfl rfl (by rw [HN.out]; rfl) (by rw [HN.out]; rfl) (by rw [HI.out.2.2.2, HN.out]; decide) (by rw [HN.out]; unfold maxLen; decide) K10.out.size ?_)
  intro w11 r11 g11
  replace r11 : w11.ownsRow w.heap.size 24 4 (.slice (some ⟨w10.heap.size, 0, none⟩) n n) n (madeCells #[.int .u64 0, .int .u64 0, .int .i64 0, .int .i64 0] (n * 4)).toList := r11
  rw [made_recs] at r11
  have K11 := hide (K10.out.grown g11 (fun x hx => by cases hx))
  have HL := hide (HR.row r11).1
  have LL := hide (show (List.replicate n zz).length = n by simp)
  generalize List.replicate n zz = l at *
  obtain ⟨v1, ra, h1, p1⟩ := HR.hi1 HL.out (by rw [LL.out, HN.out]; decide)
  obtain ⟨v2, rb, h2⟩ := HR.lo1 HL.out (by rw [LL.out, HN.out]; decide)
  have H1 := hide h1
  have P1 := hide p1
  have H2 := hide h2
  have D1 := hide (show (l.drop 1).length = 65536 by rw [List.length_drop, LL.out, HN.out])
  have D2 := hide (show (l.take 1).length = 1 by rw [List.length_take, LL.out, HN.out]; rfl)
  have DL := hide (show l.length = 65537 by rw [LL.out, HN.out])
  have C1 := hide (fun W (kW : Kp [] w11 W) => sort_h (k := 2) (H1.out.keep kW))
  rw [show chk (l.drop 1).length 2 = 0 by rw [D1.out]; decide] at C1
  have SL := hide (show (sortA 2 (l.drop 1)).length = 65536 by rw [sortA_len (by rw [D1.out]; decide), D1.out])
  have C2 := hide (fun W (kW : Kp [] w11 W) => sort_h (k := 2) (HL.out.keep kW))
  rw [show chk l.length 2 = 16 by rw [DL.out]; decide] at C2
  have C3 := hide (fun W (kW : Kp [] w11 W) => perm_h (k := 0) (HL.out.keep kW))
  rw [show chk l.length 0 = 2 by rw [DL.out]; decide] at C3
  have C4 := hide (fun W (kW : Kp [] w11 W) => merge_h (k := 3) (H1.out.keep kW) P1.out (H2.out.keep kW) (by rw [D1.out, D2.out]; decide))
  rw [show mergeE 3 (l.drop 1) (l.take 1) = 16 by unfold mergeE; rw [D1.out, D2.out, if_neg (by decide)]; decide] at C4
  have C5 := hide (fun W (kW : Kp [] w11 W) => sorted_h (k := 3) (HL.out.keep kW))
  rw [show chk l.length 3 = 16 by rw [DL.out]; decide] at C5
  have C6 := hide (fun W (kW : Kp [] w11 W) => inv_h (k := 3) (HL.out.keep kW))
  rw [show chk l.length 3 = 16 by rw [DL.out]; decide] at C6
  clear r11 g11 h1 p1 h2
  generalize sortA 2 (l.drop 1) = sl at *
  generalize sorE 3 l = s3 at *
  generalize invA 3 l = i3 at *
  go_wp2_with fail
  refine (C1.out _ (Kp.refl _ _)).mono ?_
  rintro e w12 ⟨v12, rfl, h12, _, k12⟩
  obtain ⟨p12, c12, rfl, _, _⟩ := h12
  rw [SL.out]
  have K12 := hide k12
  clear k12
  go_wp2_with fail
  refine (C2.out _ K12.out).mono ?_
  rintro e w13 ⟨v13, rfl, _, _, k13⟩
  have K13 := hide (K12.out.trans0 k13)
  clear k13
  go_wp2_with fail
  refine (C3.out _ K13.out).mono ?_
  rintro e w14 ⟨v14, rfl, _, k14⟩
  have K14 := hide (K13.out.trans0 k14)
  clear k14
  have kd : Kp [] w14 w14.drew := Kp.drewN [] w14 1
  have C4' := hide (C4.out w14.drew (K14.out.trans0 kd))
  go_wp2_with fail
  go_region_held3 (fun w' => True) (exact True.intro) (first | ((with_reducible (refine C4'.out.mono ?_)); rintro e w15 ⟨v15, rfl, h15, p15, k15d⟩; have k15 : Kp [] w14 w15 := kd.trans0 k15d; clear h15 p15))
  have K15 := hide (K14.out.trans0 k15)
  clear k15 k15d kd
  go_wp2_with fail
  refine (C5.out _ K15.out).mono ?_
  rintro e w16 ⟨rfl, k16⟩
  have K16 := hide (K15.out.trans0 k16)
  clear k16
  go_wp2_with fail
  refine (C6.out _ K16.out).mono ?_
  rintro e w17 ⟨rfl, k17⟩
  have K17 := hide (K16.out.trans0 k17)
  clear k17
  go_wp2_with fail
  refine (WK.out _).mono ?_
  rintro e w18 ⟨rfl, k18⟩
  have K18 := hide ((K11.out.trans0 K17.out).trans0 k18)
  clear k18
  go_wp2_with fail
  go_ret
  exact ⟨rfl, K18.out.below (by simp) (Nat.le_refl _)⟩
theorem own : ownKnob Try.prog.godebug = none := by kernel_rfl
theorem laidOut : laidOutB Try.prog = true := by kernel_rfl
set_option maxRecDepth 100000 in
theorem lifted (os : Os) (started : os.Started) (H : Type) (enc : TypeId × Value → H) :
    ReturnsInHanded {} Try.checked os 11 .any (Rows.msortKnownSpec.pre6 enc Try.prog Try.f11 Rows.msortKnownRow.domain false) (Rows.msortKnownSpec.post enc Try.prog Try.f11 false true false false) := by
  refine returnsInHanded_of_change (C := Try.checked) own started (by kernel_rfl) Try.func11
    (ChangeSpec.witness6 (enc := enc) (C := Try.checked) false ⟨#[], #[], []⟩ 8 (by kernel_rfl) (by kernel_rfl) (by kernel_rfl) (by kernel_rfl)) ?_
  intro W base args ds gs before hval0 hW hcnd _
  have hval : ∀ (j : Nat) t v, Try.f11.params[j]? = some t → args[j]? = some v → Value.okWide Try.prog W .any base t v := hval0
  have hW' := hW
  obtain ⟨p, q, hA0, hV, rfl, hfz, hnd⟩ := hW
  have hA : DataW.TrodAll enc Try.prog W 0 (fun _ => true) true Try.f11.params.toList args.toList ds p := hA0
  rw [Try.params11] at hA hval
  obtain ⟨hargs, rfl, rfl⟩ := trodAll_none hA
  obtain rfl : args = #[] := by cases args; simp_all
  obtain ⟨rfl, rfl⟩ := trodVars_none hV
  clear hA0 hval0
  refine (walk W).mono fun e W' ⟨he, bel⟩ => ?_
  subst he
  exact ⟨_, rfl, _, _, _, [], _, [], hW', trodAll_mk1 (shut_bool Try.underlying4 _), trodAll_mk0, rfl, bel.frame _, fun h => by cases h⟩
theorem holds : Rows.msortKnownRow.holds Try.pinned (OpenSpec.ofChange Rows.msortKnownSpec) :=
  OpenClaim.holds_of_wide 11 Try.f11 rfl rfl rfl rfl rfl rfl rfl ⟨rfl, rfl, rfl, rfl, rfl⟩ rfl rfl rfl rfl rfl (by kernel_rfl) Try.func11 (by kernel_rfl)
    (of_decide_eq_true (by kernel_rfl)) (by unfold Func.isWrapper; first | (rw [if_pos (by decide +kernel)]; kernel_rfl) | (rw [if_neg (by decide +kernel)]; exact ⟨rfl, rfl⟩))
    (fun os started H enc _ => lifted os started H enc)
theorem proved : Rows.MsortKnownSaid := holds
end lawKnown
end Go.Proofs.Ytiebmjdclicheaa
