/- The specification's histograms. -/
import Derived.Test.YtenoalfjobghnaaHQ
set_option linter.unusedVariables false
set_option linter.unusedSimpArgs false
namespace Go.Proofs.Ytenoalfjobghnaa
open Go.RowKit

/-- the specification's histogram at block b -/
structure RM (B : Nat) (w : World) (b : Nat) (vB vC : Value) (m : Nat) (V C : Nat → Int) : Prop where
  blk : w.heap[b]? = some (.cells #[.bool true, vB, vC] 68 (0, 0))
  rB : w.ownsRow B 2 1 vB m (intsI m V)
  rC : w.ownsRow B 2 1 vC (m + 1) (intsI (m + 1) C)
  ge : B ≤ b
  nB : ∀ k, vB.ownBlock = some k → k ≠ b
  nC : ∀ k, vC.ownBlock = some k → k ≠ b
  ne : ∀ k, vB.ownBlock = some k → vC.ownBlock ≠ some k
theorem RM.keep {B : Nat} {w w' : World} {b : Nat} {vB vC : Value} {m : Nat} {V C : Nat → Int} {o : List Nat} (M : RM B w b vB vC m V C) (k : Kp o w w') (d : ∀ x ∈ HM.own b vB vC, x ∉ o) : RM B w' b vB vC m V C :=
  ⟨k.blk M.blk (d b (by simp [HM.own])), k.row M.rB (fun x hx => d x (by simp [HM.own, hx])), k.row M.rC (fun x hx => d x (by simp [HM.own, hx])), M.ge, M.nB, M.nC, M.ne⟩
theorem RM.c {B : Nat} {w : World} {b : Nat} {vB vC : Value} {m : Nat} {V C : Nat → Int} (M : RM B w b vB vC m V C) : w.cell? ⟨b, 0, none⟩ = some (.bool true) ∧ w.cell? ⟨b, 1, none⟩ = some vB ∧ w.cell? ⟨b, 2, none⟩ = some vC := by
  simp [cell_of_blk M.blk]
theorem RM.lt {B : Nat} {w : World} {b : Nat} {vB vC : Value} {m : Nat} {V C : Nat → Int} (M : RM B w b vB vC m V C) : ∀ x ∈ HM.own b vB vC, B ≤ x ∧ x < w.heap.size := by
  intro x hx
  simp [HM.own] at hx
  rcases hx with rfl | hx | hx
  · exact ⟨M.ge, lt_of_blk M.blk⟩
  · exact M.rB.lt x hx
  · exact M.rC.lt x hx
theorem RM.C_at {B : Nat} {w : World} {b : Nat} {vB vC : Value} {m : Nat} {V C : Nat → Int} (M : RM B w b vB vC m V C) : ∃ g c, vC = .slice (some ⟨g, 0, none⟩) (m + 1) c := by
  obtain ⟨p, c, rfl⟩ := row_slice M.rC
  obtain ⟨g, rfl⟩ := rowSome M.rC (by omega)
  exact ⟨g, c, rfl⟩
theorem RM.put {B : Nat} {w : World} {b g c : Nat} {vB : Value} {m : Nat} {V C : Nat → Int} (M : RM B w b vB (.slice (some ⟨g, 0, none⟩) (m + 1) c) m V C) (r : Nat) (y : Int) :
    RM B (w.setCell ⟨g, r, none⟩ (.int .i64 y)) b vB (.slice (some ⟨g, 0, none⟩) (m + 1) c) m V (updI C r y) := by
  have q := row_put M.rC r (.int .i64 y)
  rw [intsI_set] at q
  exact ⟨(Kp.set (o := [g]) w ⟨g, r, none⟩ (.int .i64 y) (by simp)).blk M.blk (by have := M.nC g rfl; simp; omega), row_side M.rB (fun k hk e => M.ne k hk (by rw [e]; rfl)) _ _, q, M.ge, M.nB, M.nC, M.ne⟩
theorem ptrR : Try.prog.pointee 28 = 68 := by kernel_rfl
theorem rvalid_t {w : World} {b : Nat} (c0 : w.cell? ⟨b, 0, none⟩ = some (.bool true)) : Calls Try.prog 40 #[.pointer (some ⟨b, 0, none⟩)] w fun e w' => e = .returned (.bool true) ∧ w = w' := by
  have hp := ptrR
  go_enter Try.func40, Try.ntmps40
  go_wp2_with fail
  go_ret
  exact ⟨rfl, rfl⟩
theorem rvalid_n (w : World) : Calls Try.prog 40 #[.pointer none] w fun e w' => e = .returned (.bool false) ∧ w = w' := by
  go_enter Try.func40, Try.ntmps40
  go_wp2_with fail
  go_ret
  exact ⟨rfl, rfl⟩
set_option maxRecDepth 100000 in
theorem wpList_cloneRd {w : World} {ops : Array Oper} {rest : List Oper} {o : Oper} {a : Act} {Q : Exit → Act → World → Prop} (hgd : o.guard = none) (s x : Operand)
    (ho : o.op = .call { callee := .builtin .append, args := #[s, x], argTypes := #[22, 22] })
    (hs : a.eval s = .slice none 0 0) (n c : Nat) (p : Option Addr) (V : Nat → Int) (hx : a.eval x = .slice p n c) (hr : Rd1 w p n V) (hn : n ≤ 65536)
    (h : ∀ v' w', w'.ownsRow w.heap.size 2 1 v' n (intsI n V) → w.grownBy w' none → wpList Try.prog ops Q rest (a.put o.dst v') w') : wpList Try.prog ops Q (o :: rest) a w := by
  obtain ⟨i0, hi, hz0, hz1, hz2⟩ := infoParts infoI
  rcases p with _ | ad
  · have hz : n = 0 := by
      rcases hr with h | ⟨b, off, hp, _⟩
      · exact h
      · cases hp
    subst hz
    have hrun : (Builtin.append_ #[22, 22] o.type #[.slice none 0 0, .slice none 0 c]).run Try.prog w = .ok (.slice none 0 0) w := by
      simp [Builtin.append_, run_underlying Try.underlying22, sizeOf, typeInfo, hi, Builtin.lenOf, Builtin.firstCells]
    refine wpList_plain hgd fun K hK => ?_
    unfold Oper.wp
    simp [execOp, ho, resolve, invoke, builtin, hs, hx, hrun, Result.andThen]
    exact hK _ _ (h _ _ (World.ownsRow_nil _ _ _ _) ⟨rfl, rfl, rfl, Nat.le_refl _, fun _ _ _ => rfl⟩)
  · have hcell : ∀ (j : Nat) (u : Value), (intsI n V)[j]? = some u → w.cell? (ad.add j) = some u := by
      intro j u hj
      have hjn : j < n := by
        rcases Nat.lt_or_ge j n with h | h
        · exact h
        · rw [List.getElem?_eq_none (by rw [intsI_len]; exact h)] at hj; cases hj
      rcases hr with h0 | ⟨b, off, hp, hb, hc⟩
      · exact absurd (h0 ▸ hjn) (Nat.not_lt_zero _)
      · have hp := Option.some.inj hp
        subst hp
        rw [intsI_get V hjn] at hj
        rw [Addr.add_lit, hc j hjn, ← hj]
    refine wpList_append_own w hgd s x 22 ho w.heap.size 2 i0 (.int .i64 0) 1 8 Try.underlying22 hi hz0 hz1 hz2 rfl (by decide) (.slice none 0 0) 0 [] hs (World.ownsRow_nil _ _ _ _) ad n c (intsI n V) hx (by rw [intsI_len]; omega) hcell (intsI_one n V) (by unfold maxLen; omega) (by omega) (Nat.le_refl _) (fun v' w' h2 h3 _ => ?_)
    rw [Nat.zero_add, List.nil_append] at h2
    exact h v' w' h2 h3
section
variable {B : Nat} {w : World} {b : Nat} {vB vC : Value} {m : Nat} {V C : Nat → Int} (M : RM B w b vB vC m V C)
include M
set_option maxRecDepth 100000 in
set_option maxHeartbeats 2000000 in
theorem rcounts_t (hm : m ≤ 1024) : Calls Try.prog 35 #[.pointer (some ⟨b, 0, none⟩)] w fun e w' => ∃ v, e = .returned v ∧ w'.ownsRow w.heap.size 2 1 v (m + 1) (intsI (m + 1) C) ∧ Kp [] w w' := by
  obtain ⟨g, c, rfl⟩ := M.C_at
  have v0 := hide (rvalid_t M.c.1)
  have RR := hide (rd_any M.rC)
  have hp := ptrR
  have c1 := M.c.2.2
  have HM0 := hide hm
  clear M hm
  generalize hm1 : m + 1 = m1 at *
  have HM1 := hide hm1
  clear hm1
  go_enter Try.func35, Try.ntmps35
  go_wp2_with fail
  refine v0.out.mono ?_
  rintro e w' ⟨rfl, rfl⟩
  go_wp2_with (at_builtin; refine wpList_cloneRd rfl _ _ rfl rfl m1 c _ C rfl RR.out (by have := HM0.out; have := HM1.out; omega) ?_)
  intro v' w' r1 g1
  have R := hide (And.intro r1 ((Kp.refl [] w).grown g1 (by simp)))
  clear r1 g1
  go_wp2_with fail
  go_ret
  exact ⟨_, rfl, R.out.1, R.out.2⟩
set_option maxRecDepth 100000 in
set_option maxHeartbeats 2000000 in
theorem rbounds_t (hm : m ≤ 1024) : Calls Try.prog 36 #[.pointer (some ⟨b, 0, none⟩)] w fun e w' => ∃ v, e = .returned v ∧ w'.ownsRow w.heap.size 2 1 v m (intsI m V) ∧ Kp [] w w' := by
  obtain ⟨p, c, rfl⟩ := row_slice M.rB
  have v0 := hide (rvalid_t M.c.1)
  have RR := hide (rd_any M.rB)
  have hp := ptrR
  have c1 := M.c.2.1
  have HM0 := hide hm
  clear M hm
  go_enter Try.func36, Try.ntmps36
  go_wp2_with fail
  refine v0.out.mono ?_
  rintro e w' ⟨rfl, rfl⟩
  go_wp2_with (at_builtin; refine wpList_cloneRd rfl _ _ rfl rfl m c _ V rfl RR.out (by have := HM0.out; omega) ?_)
  intro v' w' r1 g1
  have R := hide (And.intro r1 ((Kp.refl [] w).grown g1 (by simp)))
  clear r1 g1
  go_wp2_with fail
  go_ret
  exact ⟨_, rfl, R.out.1, R.out.2⟩
set_option maxRecDepth 100000 in
set_option maxHeartbeats 2000000 in
theorem rtotal_t (hm : m ≤ 1024) (nn : ∀ i, i < m + 1 → 0 ≤ C i) (top : sumI C (m + 1) ≤ 9223372036854775807) : Calls Try.prog 37 #[.pointer (some ⟨b, 0, none⟩)] w fun e w' => e = .returned (.int .i64 (sumI C (m + 1))) ∧ w = w' := by
  obtain ⟨g, c, rfl⟩ := M.C_at
  have v0 := hide (rvalid_t M.c.1)
  have RR := hide M.rC
  have hp := ptrR
  have c1 := M.c.2.2
  have HM0 := hide hm
  have HN := hide nn
  have HT := hide top
  clear M hm nn top
  generalize hm1 : m + 1 = m1 at *
  have HM1 := hide hm1
  clear hm1
  go_enter Try.func37, Try.ntmps37
  go_wp2_with fail
  refine v0.out.mono ?_
  rintro e w' ⟨rfl, rfl⟩
  go_wp2_with fail
  go_loop [3, 4] (fun z i => ∃ k : Nat, k ≤ m1 ∧ i = .int .i64 (k : Int) ∧ z = .int .i64 (sumI C k)) (fun _ i => m1 - (intOf i).toNat)
  case atStart => exact ⟨0, Nat.zero_le _, rfl, rfl⟩
  case round =>
    obtain ⟨k, hk, rfl, rfl⟩ := hrel
    by_cases hlt : k < m1
    · have dk : decide ((k : Int) < (m1 : Int)) = true := by simp; omega
      have dk' : decide (k < m1) = true := by simp; omega
      have ww : IntKind.i64.wrap ((k : Int) + 1) = ((k + 1 : Nat) : Int) := by have := HM0.out; have := HM1.out; rw [IntKind.wrap_i64]; omega
      have b1 : (k : Int) < (m1 : Int) := by omega
      obtain ⟨g', hg, e1, _, _⟩ := row_cell RR.out hlt
      injection hg with hg; injection hg with hg; subst hg
      rw [intsI_get _ hlt] at e1
      have s1 := sumI_mono HN.out m1 (k + 1) (by omega) (Nat.le_refl _)
      have s2 := sumI_nn HN.out (k + 1) (by omega)
      have s3 := HT.out
      have NS := hide (show sumI C (k + 1) = sumI C k + C k from rfl)
      have wa : IntKind.i64.wrap (sumI C k + C k) = sumI C (k + 1) := by rw [IntKind.wrap_i64, ← NS.out]; omega
      clear s1 s2 s3 NS
      generalize sumI C k = z at *
      generalize C k = y at *
      go_wp2_with fail
      go_round
      case rel => exact ⟨k + 1, by omega, by first | rfl | go_num, rfl⟩
      case measure => simp [intOf]; omega
    · have : k = m1 := by omega
      subst this
      have dk : decide ((k : Int) < (k : Int)) = false := by simp
      have dk' : decide (k < k) = false := by simp
      go_wp2_with fail
      go_ret
      exact ⟨rfl, rfl⟩
set_option maxRecDepth 100000 in
set_option maxHeartbeats 2000000 in
theorem rbucket_t (hm : m ≤ 1024) (x : Int) : Calls Try.prog 21 #[.pointer (some ⟨b, 0, none⟩), .int .i64 x] w fun e w' => e = .returned (.int .i64 ((bk V x m : Nat) : Int)) ∧ w = w' := by
  obtain ⟨p, c, rfl⟩ := row_slice M.rB
  have v0 := hide (rvalid_t M.c.1)
  have RR := hide M.rB
  have hp := ptrR
  have c1 := M.c.2.1
  have HM0 := hide hm
  clear M hm
  go_enter Try.func21, Try.ntmps21
  go_wp2_with fail
  refine v0.out.mono ?_
  rintro e w' ⟨rfl, rfl⟩
  go_wp2_with fail
  go_loop [5, 6] (fun z i => ∃ k : Nat, k ≤ m ∧ i = .int .i64 (k : Int) ∧ z = .int .i64 ((bk V x k : Nat) : Int)) (fun _ i => m - (intOf i).toNat)
  case atStart => exact ⟨0, Nat.zero_le _, rfl, rfl⟩
  case round =>
    obtain ⟨k, hk, rfl, rfl⟩ := hrel
    by_cases hlt : k < m
    · have dk : decide ((k : Int) < (m : Int)) = true := by simp; omega
      have dk' : decide (k < m) = true := by simp; omega
      have ww : IntKind.i64.wrap ((k : Int) + 1) = ((k + 1 : Nat) : Int) := by have := HM0.out; rw [IntKind.wrap_i64]; omega
      have b1 : (k : Int) < (m : Int) := by omega
      obtain ⟨g', rfl, e1, _, _⟩ := row_cell RR.out hlt
      rw [intsI_get _ hlt] at e1
      have le := bk_le V x k
      by_cases hv : V k ≤ x
      · have dv : decide (V k ≤ x) = true := by simpa using hv
        have nx : bk V x (k + 1) = bk V x k + 1 := by simp only [bk, if_pos hv]
        have wa : IntKind.i64.wrap (((bk V x k : Nat) : Int) + 1) = ((bk V x (k + 1) : Nat) : Int) := by have := HM0.out; rw [IntKind.wrap_i64, nx]; omega
        clear nx le
        generalize bk V x k = z at *
        generalize V k = y at *
        go_wp2_with fail
        go_round
        case rel => exact ⟨k + 1, by omega, by first | rfl | go_num, rfl⟩
        case measure => simp [intOf]; omega
      · have dv : decide (V k ≤ x) = false := by simpa using hv
        have nx : bk V x (k + 1) = bk V x k := by simp only [bk, if_neg hv, Nat.add_zero]
        have NX := hide nx
        clear nx le
        generalize hz : bk V x k = z at *
        generalize V k = y at *
        go_wp2_with fail
        go_round
        case rel => exact ⟨k + 1, by omega, by first | rfl | go_num, by rw [NX.out]⟩
        case measure => simp [intOf]; omega
    · have : k = m := by omega
      subst this
      have dk : decide ((k : Int) < (k : Int)) = false := by simp
      have dk' : decide (k < k) = false := by simp
      go_wp2_with fail
      go_ret
      exact ⟨rfl, rfl⟩
end
end Go.Proofs.Ytenoalfjobghnaa
