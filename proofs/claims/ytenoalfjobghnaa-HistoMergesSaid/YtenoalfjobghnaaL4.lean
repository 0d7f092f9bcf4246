/- HistoMerges holds: merging two histograms, or one with itself, gives what the document says. -/
import Derived.Test.YtenoalfjobghnaaHb
import Derived.Test.YtenoalfjobghnaaOs
import Derived.Test.YtenoalfjobghnaaOp
import Derived.Test.YtenoalfjobghnaaRows
import Derived.Deep.CutRange
import Derived.StillTailTactics
set_option linter.unusedVariables false
set_option linter.unusedSimpArgs false
namespace Go.Proofs.Ytenoalfjobghnaa
open Go.RowKit
theorem HB.keep2 {ok ok' : Bool} {S : Nat} {w w' : World} {a o : Id} {m : Nat} {V C : Nat → Int} {p : Option Addr} (h : HB ok S w a m V C p) (k : Kp (ownB ok' o) w w') (d : ok = true → ok' = true → dis a o) : HB ok S w' a m V C p := by
  rcases h with ⟨h1, h2, h3⟩ | h
  · exact HB.keep (.inl ⟨h1, h2, h3⟩) k (d h1)
  · exact .inr h
theorem RB.keep2 {ok ok' : Bool} {S : Nat} {w w' : World} {a o : Id} {m : Nat} {V C : Nat → Int} {p : Option Addr} (h : RB ok S w a m V C p) (k : Kp (ownB ok' o) w w') (d : ok = true → ok' = true → dis a o) : RB ok S w' a m V C p := by
  rcases h with ⟨h1, h2, h3⟩ | h
  · exact RB.keep (.inl ⟨h1, h2, h3⟩) k (d h1)
  · exact .inr h
/-- all its blocks lie in a range -/
def Lies (ok : Bool) (a : Id) (x y : Nat) : Prop := ok = true → ∀ z ∈ a.own, x ≤ z ∧ z < y
theorem HB.lies {ok : Bool} {S : Nat} {w : World} {a : Id} {m : Nat} {V C : Nat → Int} {p : Option Addr} (h : HB ok S w a m V C p) : Lies ok a S w.heap.size := by
  intro e
  rcases h with ⟨_, _, h3⟩ | ⟨h1, _⟩
  · exact h3.lt
  · rw [e] at h1; cases h1
theorem RB.lies {ok : Bool} {S : Nat} {w : World} {a : Id} {m : Nat} {V C : Nat → Int} {p : Option Addr} (h : RB ok S w a m V C p) : Lies ok a S w.heap.size := by
  intro e
  rcases h with ⟨_, _, h3⟩ | ⟨h1, _⟩
  · exact h3.lt
  · rw [e] at h1; cases h1
theorem lies_dis {ok ok' : Bool} {a b : Id} {x y x' y' : Nat} (h : Lies ok a x y) (k : Lies ok' b x' y') (hs : y ≤ x') : ok = true → ok' = true → dis a b := fun e f z hz hz' => by
  have := (h e z hz).2; have := (k f z hz').1; omega
theorem lies_dis' {ok ok' : Bool} {a b : Id} {x y x' y' : Nat} (h : Lies ok a x y) (k : Lies ok' b x' y') (hs : y' ≤ x) : ok = true → ok' = true → dis a b := fun e f z hz hz' => by
  have := (h e z hz).1; have := (k f z hz').2; omega
namespace lawMerges
open Go.ChangeShapes Go.WideShapes Go.ChangeAt Go.RowKit Go.Joins
set_option maxRecDepth 100000 in
set_option maxHeartbeats 16000000 in
theorem walk (s0 : Option Addr) (len0 cap0 : Nat) (V0 : Nat → Nat → Int) (s1 : Option Addr) (len1 cap1 : Nat) (V1 : Nat → Nat → Int) (s2 : Option Addr) (len2 cap2 : Nat) (V2 : Nat → Nat → Int) (s3 : Option Addr) (len3 cap3 : Nat) (V3 : Nat → Nat → Int) (own : Bool) (w : World) (hc0 : len0 ≤ cap0 ∧ cap0 ≤ maxLen) (hr0 : RowsI w s0 [.i64] len0 V0) (hc1 : len1 ≤ cap1 ∧ cap1 ≤ maxLen) (hr1 : RowsI w s1 [.i64] len1 V1) (hc2 : len2 ≤ cap2 ∧ cap2 ≤ maxLen) (hr2 : RowsI w s2 [.i64, .i64] len2 V2) (hc3 : len3 ≤ cap3 ∧ cap3 ≤ maxLen) (hr3 : RowsI w s3 [.i64, .i64] len3 V3) : Calls Try.prog 6 #[.agg #[.slice s0 len0 cap0, .slice s1 len1 cap1, .slice s2 len2 cap2, .slice s3 len3 cap3], .bool own] w fun e w' => e = .returned (.bool true) ∧ Below w.heap.size w w' := by
  have HRA := hide (rd_of hr0)
  have HRB := hide (rd_of hr1)
  have HSL := hide (steps_of hr2)
  have HSM := hide (steps_of hr3)
  have KZ := hide (Kp.alloc (o := []) w (.cells #[.slice s0 len0 cap0, .slice s1 len1 cap1, .slice s2 len2 cap2, .slice s3 len3 cap3] 46))
  have BZ : Hid ((w.alloc (.cells #[.slice s0 len0 cap0, .slice s1 len1 cap1, .slice s2 len2 cap2, .slice s3 len3 cap3] 46)).heap[w.heap.size]? = some (.cells #[.slice s0 len0 cap0, .slice s1 len1 cap1, .slice s2 len2 cap2, .slice s3 len3 cap3] 46 (0, 0))) := heap_alloc_new _ _
  clear hr0 hr1 hr2 hr3 hc0 hc1 hc2 hc3
  by_cases hl0 : 200 < len0
  · have d0 : decide ((200 : Int) < (len0 : Int)) = true := by simp; omega
    have d0' : decide (200 < len0) = true := by simp; omega
    clear hl0 BZ HRA HRB HSL HSM
    go_enter Try.func6, Try.ntmps6
    go_wp2_with fail
    refine (works _).mono ?_
    rintro e w2 ⟨rfl, bw⟩
    have HW := hide bw
    clear bw
    go_wp2_with fail
    go_ret
    exact ⟨rfl, (KZ.out.below (by simp) (Nat.le_refl _)).trans (HW.out.mono KZ.out.size)⟩
  have d0 : decide ((200 : Int) < (len0 : Int)) = false := by simp; omega
  have d0' : decide (200 < len0) = false := by simp; omega
  have HL0 := hide hl0
  clear hl0
  by_cases hl1 : 200 < len1
  · have d1 : decide ((200 : Int) < (len1 : Int)) = true := by simp; omega
    have d1' : decide (200 < len1) = true := by simp; omega
    clear hl1 BZ HRA HRB HSL HSM
    go_enter Try.func6, Try.ntmps6
    go_wp2_with fail
    refine (works _).mono ?_
    rintro e w2 ⟨rfl, bw⟩
    have HW := hide bw
    clear bw
    go_wp2_with fail
    go_ret
    exact ⟨rfl, (KZ.out.below (by simp) (Nat.le_refl _)).trans (HW.out.mono KZ.out.size)⟩
  have d1 : decide ((200 : Int) < (len1 : Int)) = false := by simp; omega
  have d1' : decide (200 < len1) = false := by simp; omega
  have HL1 := hide hl1
  clear hl1
  by_cases hl2 : 200 < len2
  · have d2 : decide ((200 : Int) < (len2 : Int)) = true := by simp; omega
    have d2' : decide (200 < len2) = true := by simp; omega
    clear hl2 BZ HRA HRB HSL HSM
    go_enter Try.func6, Try.ntmps6
    go_wp2_with fail
    refine (works _).mono ?_
    rintro e w2 ⟨rfl, bw⟩
    have HW := hide bw
    clear bw
    go_wp2_with fail
    go_ret
    exact ⟨rfl, (KZ.out.below (by simp) (Nat.le_refl _)).trans (HW.out.mono KZ.out.size)⟩
  have d2 : decide ((200 : Int) < (len2 : Int)) = false := by simp; omega
  have d2' : decide (200 < len2) = false := by simp; omega
  have HL2 := hide hl2
  clear hl2
  by_cases hl3 : 200 < len3
  · have d3 : decide ((200 : Int) < (len3 : Int)) = true := by simp; omega
    have d3' : decide (200 < len3) = true := by simp; omega
    clear hl3 BZ HRA HRB HSL HSM
    go_enter Try.func6, Try.ntmps6
    go_wp2_with fail
    refine (works _).mono ?_
    rintro e w2 ⟨rfl, bw⟩
    have HW := hide bw
    clear bw
    go_wp2_with fail
    go_ret
    exact ⟨rfl, (KZ.out.below (by simp) (Nat.le_refl _)).trans (HW.out.mono KZ.out.size)⟩
  have d3 : decide ((200 : Int) < (len3 : Int)) = false := by simp; omega
  have d3' : decide (200 < len3) = false := by simp; omega
  have HL3 := hide hl3
  clear hl3
  have N1 := hide (filled_t (cap0 := cap0) (cap1 := cap2) (HRA.out.below KZ.out) (HSL.out.below KZ.out) (by have := HL2.out; omega))
  go_enter Try.func6, Try.ntmps6
  go_wp2_with fail
  refine N1.out.mono ?_
  rintro e w1 ⟨ok1, a, b, p, q, C, rfl, g, r, dab, k⟩
  have K1 := hide (KZ.out.trans0 k)
  have B1 := hide (k.blk BZ.out (by simp))
  have LA := hide g.lies
  have LB := hide r.lies
  have DAB := hide dab
  have G1 := hide g
  have R1 := hide r
  obtain ⟨bz, hbz⟩ : ∃ b, b = w.heap.size := ⟨_, rfl⟩
  rw [← hbz] at B1 ⊢
  have z1 : w1.cell? ⟨bz, 1, none⟩ = some (.slice s1 len1 cap1) := by simp [cell_of_blk B1.out]
  have z3 : w1.cell? ⟨bz, 3, none⟩ = some (.slice s3 len3 cap3) := by simp [cell_of_blk B1.out]
  have N2 := hide (filled_t (cap0 := cap1) (cap1 := cap3) (HRB.out.below K1.out) (HSM.out.below K1.out) (by have := HL3.out; omega))
  clear hbz BZ N1 g r k dab B1 d0 d0' d1 d1' d2 d2' d3 d3'
  go_wp2_with fail
  refine N2.out.mono ?_
  rintro e w2 ⟨ok2, a', b', p', q', C', rfl, g, r, dab, k⟩
  have K2 := hide (K1.out.trans0 k)
  have LA' := hide g.lies
  have LB' := hide r.lies
  have DAB' := hide dab
  have G2 := hide (G1.out.keep0 k)
  have R2 := hide (R1.out.keep0 k)
  have G2' := hide g
  have R2' := hide r
  generalize (fun i => V0 i 0) = VA at *
  generalize (fun i => V1 i 0) = VB at *
  have geA := hide (show ∀ z ∈ ownB ok1 a, w.heap.size ≤ z from fun z hz => Nat.le_trans KZ.out.size (G2.out.ge z hz))
  have geB := hide (show ∀ z ∈ ownB ok1 b, w.heap.size ≤ z from fun z hz => Nat.le_trans KZ.out.size (R2.out.ge z hz))
  clear N2 g r k dab z1 z3 G1 R1
  cases own with
  | false =>
    obtain ⟨er, D, hmr⟩ := MR_ex ok1 ok2 len0 len1 VA VB C C'
    have HMR := hide hmr
    have M1 := hide (merge_b G2.out G2'.out (fun e f x hx he => by
      have h1 := (LA.out e x (by simp [Id.own, HM.own, hx])).2
      have h2 := (LA'.out f a'.b (by simp [Id.own, HM.own])).1
      omega) hmr)
    clear hmr
    go_wp2_with fail
    refine M1.out.mono ?_
    rintro e w3 ⟨rfl, g, k⟩
    have G3 := hide g
    have G3' := hide (G2'.out.keep2 k (lies_dis' LA'.out LA.out (Nat.le_refl _)))
    have R3 := hide (R2.out.keep2 k (fun e f => dis_symm (DAB.out e)))
    have R3' := hide (R2'.out.keep2 k (lies_dis' LB'.out LA.out (Nat.le_refl _)))
    have K3 := hide (Kp.outer K2.out k geA.out)
    have M2 := hide (rmerge_b R3.out R3'.out HMR.out)
    clear g k M1 G2 G2' R2 R2'
    go_wp2_with fail
    refine M2.out.mono ?_
    rintro e w4 ⟨rfl, r, k⟩
    have R4 := hide r
    have G4 := hide (G3.out.keep2 k (fun e f => DAB.out e))
    have G4' := hide (G3'.out.keep2 k (lies_dis' LA'.out LB.out (Nat.le_refl _)))
    have R4' := hide (R3'.out.keep2 k (lies_dis' LB'.out LB.out (Nat.le_refl _)))
    have K4 := hide (Kp.outer K3.out k geB.out)
    have A1 := hide (agree_b G4.out R4.out 0)
    clear r k M2 G3 G3' R3 R3'
    go_wp2_with fail
    refine A1.out.mono ?_
    rintro e w5 ⟨rfl, k⟩
    have K5 := hide (K4.out.trans0 k)
    have A2 := hide (agree_b (G4'.out.keep0 k) (R4'.out.keep0 k) 0)
    clear k A1 G4 G4' R4 R4'
    go_wp2_with fail
    refine A2.out.mono ?_
    rintro e w6 ⟨rfl, k⟩
    have K6 := hide (K5.out.trans0 k)
    clear k A2
    go_wp2_with fail
    refine (works _).mono ?_
    rintro e w9 ⟨rfl, bw⟩
    have HW := hide bw
    clear bw
    go_wp2_with fail
    go_ret
    exact ⟨rfl, (K6.out.below (by simp) (Nat.le_refl _)).trans (HW.out.mono K6.out.size)⟩
  | true =>
    obtain ⟨er, D, hmr⟩ := MR_ex ok1 ok1 len0 len0 VA VA C C
    have HMR := hide hmr
    have M1 := hide (merge_b G2.out G2.out (fun e f x hx he => by
      rcases G2.out with ⟨_, _, h3⟩ | ⟨h, _⟩
      · exact h3.M.nC x hx he.symm
      · rw [e] at h; cases h) hmr)
    clear hmr
    go_wp2_with fail
    refine M1.out.mono ?_
    rintro e w3 ⟨rfl, g, k⟩
    have G3 := hide g
    have R3 := hide (R2.out.keep2 k (fun e f => dis_symm (DAB.out e)))
    have K3 := hide (Kp.outer K2.out k geA.out)
    have M2 := hide (rmerge_b R3.out R3.out HMR.out)
    clear g k M1 G2 R2
    go_wp2_with fail
    refine M2.out.mono ?_
    rintro e w4 ⟨rfl, r, k⟩
    have R4 := hide r
    have G4 := hide (G3.out.keep2 k (fun e f => DAB.out e))
    have K4 := hide (Kp.outer K3.out k geB.out)
    have A1 := hide (agree_b G4.out R4.out 0)
    clear r k M2 G3 R3
    go_wp2_with fail
    refine A1.out.mono ?_
    rintro e w5 ⟨rfl, k⟩
    have K5 := hide (K4.out.trans0 k)
    have A2 := hide (agree_b (G4.out.keep0 k) (R4.out.keep0 k) 0)
    clear k A1 G4 R4
    go_wp2_with fail
    refine A2.out.mono ?_
    rintro e w6 ⟨rfl, k⟩
    have K6 := hide (K5.out.trans0 k)
    clear k A2
    go_wp2_with fail
    refine (works _).mono ?_
    rintro e w9 ⟨rfl, bw⟩
    have HW := hide bw
    clear bw
    go_wp2_with fail
    go_ret
    exact ⟨rfl, (K6.out.below (by simp) (Nat.le_refl _)).trans (HW.out.mono K6.out.size)⟩
theorem own : ownKnob Try.prog.godebug = none := by kernel_rfl
theorem laidOut : laidOutB Try.prog = true := by kernel_rfl
set_option maxRecDepth 100000 in
theorem lifted (os : Os) (started : os.Started) (H : Type) (enc : TypeId × Value → H) :
    ReturnsInHanded {} Try.checked os 6 .any (Rows.histoMergesSpec.pre6 enc Try.prog Try.f6 Rows.histoMergesRow.domain false) (Rows.histoMergesSpec.post enc Try.prog Try.f6 false true false false) := by
  refine returnsInHanded_of_change (C := Try.checked) own started (by kernel_rfl) Try.func6
    (ChangeSpec.witness6 (enc := enc) (C := Try.checked) false ⟨#[], #[.agg #[.slice none 0 0, .slice none 0 0, .slice none 0 0, .slice none 0 0], .bool false], []⟩ 8 (by kernel_rfl) (by kernel_rfl) (by kernel_rfl) (by kernel_rfl)) ?_
  intro W base args ds gs before hval0 hW hcnd _
  have hval : ∀ (j : Nat) t v, Try.f6.params[j]? = some t → args[j]? = some v → Value.okWide Try.prog W .any base t v := hval0
  have hW' := hW
  obtain ⟨p, q, hA0, hV, rfl, hfz, hnd⟩ := hW
  have hA : DataW.TrodAll enc Try.prog W 0 (fun _ => true) true Try.f6.params.toList args.toList ds p := hA0
  rw [Try.params6] at hA hval
  obtain ⟨v0, vs0, d0, ds0, p0, q0, hargs, rfl, rfl, h0, r0⟩ := trodAll_cons hA
  obtain ⟨v1, vs1, d1, ds1, p1, q1, rfl, rfl, rfl, h1, r1⟩ := trodAll_cons r0
  obtain ⟨rfl, rfl, rfl⟩ := trodAll_nil r1
  obtain rfl : args = #[v0, v1] := by cases args; simp_all
  obtain ⟨rfl, rfl⟩ := trodVars_none hV
  have k0 := h0
  have lt0 : ∀ x ∈ p0, x.block < W.heap.size := by obtain ⟨m, hm⟩ := k0; exact DataW.trod_lt m _ _ _ hm
  have k1 := h1
  have lt1 : ∀ x ∈ p1, x.block < W.heap.size := by obtain ⟨m, hm⟩ := k1; exact DataW.trod_lt m _ _ _ hm
  obtain ⟨cs0, rfl, sz0⟩ := okWide_struct Try.underlying46 (hval 0 46 v0 rfl rfl)
  have szz0 : cs0.size = 4 := sz0.trans (by kernel_rfl)
  obtain ⟨u0_0, fu0_0, y0_0, hu0_0, ht0_0⟩ := fields_in Try.underlying46 h0 (j := 0) (f := _) rfl rfl (by kernel_rfl) (by omega)
  obtain ⟨s0_0, len0_0, cap0_0, V0_0, e0_0, hc0_0, hr0_0⟩ := slice_in Try.underlying22 (flat_int Try.underlying2 (by kernel_rfl)) (by decide) ht0_0
  obtain rfl : u0_0 = .slice s0_0 len0_0 cap0_0 := by injection e0_0
  obtain ⟨u0_1, fu0_1, y0_1, hu0_1, ht0_1⟩ := fields_in Try.underlying46 h0 (j := 1) (f := _) rfl rfl (by kernel_rfl) (by omega)
  obtain ⟨s0_1, len0_1, cap0_1, V0_1, e0_1, hc0_1, hr0_1⟩ := slice_in Try.underlying22 (flat_int Try.underlying2 (by kernel_rfl)) (by decide) ht0_1
  obtain rfl : u0_1 = .slice s0_1 len0_1 cap0_1 := by injection e0_1
  obtain ⟨u0_2, fu0_2, y0_2, hu0_2, ht0_2⟩ := fields_in Try.underlying46 h0 (j := 2) (f := _) rfl rfl (by kernel_rfl) (by omega)
  obtain ⟨s0_2, len0_2, cap0_2, V0_2, e0_2, hc0_2, hr0_2⟩ := slice_in Try.underlying33 (flat_struct (ks := [.i64, .i64]) Try.underlying36 (by kernel_rfl) (by kernel_rfl)) (by decide) ht0_2
  obtain rfl : u0_2 = .slice s0_2 len0_2 cap0_2 := by injection e0_2
  obtain ⟨u0_3, fu0_3, y0_3, hu0_3, ht0_3⟩ := fields_in Try.underlying46 h0 (j := 3) (f := _) rfl rfl (by kernel_rfl) (by omega)
  obtain ⟨s0_3, len0_3, cap0_3, V0_3, e0_3, hc0_3, hr0_3⟩ := slice_in Try.underlying33 (flat_struct (ks := [.i64, .i64]) Try.underlying36 (by kernel_rfl) (by kernel_rfl)) (by decide) ht0_3
  obtain rfl : u0_3 = .slice s0_3 len0_3 cap0_3 := by injection e0_3
  obtain rfl := arr4 szz0 hu0_0 hu0_1 hu0_2 hu0_3
  obtain ⟨a1, rfl, _, _⟩ := open_bool Try.underlying4 (hval 1 4 v1 rfl rfl) h1
  clear hA0 hval0
  refine (walk s0_0 len0_0 cap0_0 V0_0 s0_1 len0_1 cap0_1 V0_1 s0_2 len0_2 cap0_2 V0_2 s0_3 len0_3 cap0_3 V0_3 a1 W hc0_0 hr0_0 hc0_1 hr0_1 hc0_2 hr0_2 hc0_3 hr0_3).mono fun e W' ⟨he, bel⟩ => ?_
  subst he
  exact ⟨_, rfl, _, _, _, [], _, [], hW', trodAll_mk1 (shut_bool Try.underlying4 _), (trodAll_cons_mk (Below.trod laidOut (by kernel_rfl) (of_decide_eq_true (by kernel_rfl)) k0 bel lt0) (trodAll_cons_mk (Below.trod laidOut (by kernel_rfl) (of_decide_eq_true (by kernel_rfl)) k1 bel lt1) trodAll_mk0)), rfl, bel.frame _, fun h => by cases h⟩
theorem holds : Rows.histoMergesRow.holds Try.pinned (OpenSpec.ofChange Rows.histoMergesSpec) :=
  OpenClaim.holds_of_wide 6 Try.f6 rfl rfl rfl rfl rfl rfl rfl ⟨rfl, rfl, rfl, rfl, rfl⟩ rfl rfl rfl rfl rfl (by kernel_rfl) Try.func6 (by kernel_rfl)
    (of_decide_eq_true (by kernel_rfl)) (by unfold Func.isWrapper; first | (rw [if_pos (by decide +kernel)]; kernel_rfl) | (rw [if_neg (by decide +kernel)]; exact ⟨rfl, rfl⟩))
    (fun os started H enc _ => lifted os started H enc)
theorem proved : Rows.HistoMergesSaid := holds
end lawMerges
end Go.Proofs.Ytenoalfjobghnaa
