/- Add; Counts and Bounds. -/
import Derived.Test.YtenoalfjobghnaaHD
import Derived.Test.YtenoalfjobghnaaCa
set_option linter.unusedVariables false
set_option linter.unusedSimpArgs false
namespace Go.Proofs.Ytenoalfjobghnaa
open Go.RowKit

theorem HM.put {B : Nat} {w : World} {b g c : Nat} {vB : Value} {m : Nat} {V C : Nat → Int} (M : HM B w b vB (.slice (some ⟨g, 0, none⟩) (m + 1) c) m V C) (r : Nat) (y : Int) :
    HM B (w.setCell ⟨g, r, none⟩ (.int .i64 y)) b vB (.slice (some ⟨g, 0, none⟩) (m + 1) c) m V (updI C r y) := by
  have q := row_put M.rC r (.int .i64 y)
  rw [intsI_set] at q
  exact ⟨(Kp.set (o := [g]) w ⟨g, r, none⟩ (.int .i64 y) (by simp)).blk M.blk (by have := M.nC g rfl; simp; omega), row_side M.rB (fun k hk e => M.ne k hk (by rw [e]; rfl)) _ _, q, M.ge, M.nB, M.nC, M.ne⟩
section
variable {B : Nat} {w : World} {b : Nat} {vB vC : Value} {m : Nat} {V C : Nat → Int} (M : HM B w b vB vC m V C)
include M
theorem counts_t (hm : m ≤ 1024) : Calls Try.prog 29 #[.pointer (some ⟨b, 0, none⟩)] w fun e w' => ∃ v, e = .returned v ∧ w'.ownsRow w.heap.size 2 1 v (m + 1) (intsI (m + 1) C) ∧ Kp [] w w' := by
  obtain ⟨g, c, rfl⟩ := M.C_at
  have c1 := M.c.2
  have v0 := hide (valid_t c1)
  have N := hide (clone_t (w := w) (c := c) (Rd1.row M.rC) (by omega))
  have hp := ptrH
  clear M hm
  generalize m + 1 = m1 at *
  go_enter Try.func29, Try.ntmps29
  go_wp2_with fail
  refine v0.out.mono ?_
  rintro e w' ⟨rfl, rfl⟩
  go_wp2_with fail
  refine N.out.mono ?_
  rintro e w1 ⟨v, rfl, r1, k1⟩
  have R := hide (And.intro r1 k1)
  clear r1 k1
  go_wp2_with fail
  go_ret
  exact ⟨v, rfl, R.out.1, R.out.2⟩
omit M in
theorem rd_any {w : World} {B n c : Nat} {p : Option Addr} {V : Nat → Int} (h : w.ownsRow B 2 1 (.slice p n c) n (intsI n V)) : Rd1 w p n V := by
  by_cases hn : n = 0
  · exact .inl hn
  · obtain ⟨g, rfl⟩ := rowSome h (by omega)
    exact Rd1.row h
theorem bounds_t (hm : m ≤ 1024) : Calls Try.prog 30 #[.pointer (some ⟨b, 0, none⟩)] w fun e w' => ∃ v, e = .returned v ∧ w'.ownsRow w.heap.size 2 1 v m (intsI m V) ∧ Kp [] w w' := by
  obtain ⟨g, c, rfl⟩ := M.C_at
  obtain ⟨p, cb, rfl⟩ := row_slice M.rB
  have c0 := M.c.1
  have c1 := M.c.2
  have v0 := hide (valid_t c1)
  have N := hide (clone_t (w := w) (c := cb) (rd_any M.rB) (by omega))
  have hp := ptrH
  clear M hm c1
  generalize m + 1 = m1 at *
  go_enter Try.func30, Try.ntmps30
  go_wp2_with fail
  refine v0.out.mono ?_
  rintro e w' ⟨rfl, rfl⟩
  go_wp2_with fail
  refine N.out.mono ?_
  rintro e w1 ⟨v, rfl, r1, k1⟩
  have R := hide (And.intro r1 k1)
  clear r1 k1
  go_wp2_with fail
  go_ret
  exact ⟨v, rfl, R.out.1, R.out.2⟩
theorem add_neg (hm : m ≤ 1024) (x t : Int) (ht : t < 0) : Calls Try.prog 18 #[.pointer (some ⟨b, 0, none⟩), .int .i64 x, .int .i64 t] w fun e w' => e = .returned (.int .i64 2) ∧ w = w' := by
  obtain ⟨g, c, rfl⟩ := M.C_at
  have c1 := M.c.2
  have v0 := hide (valid_t c1)
  have hp := ptrH
  have dt : decide (t < 0) = true := by simp [ht]
  clear M hm ht
  go_enter Try.func18, Try.ntmps18
  go_wp2_with fail
  refine v0.out.mono ?_
  rintro e w' ⟨rfl, rfl⟩
  go_wp2_with fail
  go_ret
  exact ⟨rfl, rfl⟩
theorem add_top (hm : m ≤ 1024) (nn : ∀ i, i < m + 1 → 0 ≤ C i) (top : sumI C (m + 1) ≤ 9223372036854775807) (x t : Int) (ht : 0 ≤ t) (it : I64 t) (no : 9223372036854775807 < sumI C (m + 1) + t) :
    Calls Try.prog 18 #[.pointer (some ⟨b, 0, none⟩), .int .i64 x, .int .i64 t] w fun e w' => e = .returned (.int .i64 7) ∧ w = w' := by
  have T := hide (total_t M hm nn top)
  have A := hide (add_no (sumI C (m + 1)) t w (by have := sumI_nn nn (m + 1) (Nat.le_refl _); unfold I64; omega) it (by unfold I64; omega))
  obtain ⟨g, c, rfl⟩ := M.C_at
  have c1 := M.c.2
  have v0 := hide (valid_t c1)
  have hp := ptrH
  have dt : decide (t < 0) = false := by simp; omega
  clear M hm ht nn top it no
  generalize sumI C (m + 1) = z at *
  go_enter Try.func18, Try.ntmps18
  go_wp2_with fail
  refine v0.out.mono ?_
  rintro e w' ⟨rfl, rfl⟩
  go_wp2_with fail
  refine T.out.mono ?_
  rintro e w' ⟨rfl, rfl⟩
  go_wp2_with fail
  refine A.out.mono ?_
  rintro e w' ⟨rfl, rfl⟩
  go_wp2_with fail
  go_ret
  exact ⟨rfl, rfl⟩
theorem add_t (hm : m ≤ 1024) (inc : Inc V m) (nn : ∀ i, i < m + 1 → 0 ≤ C i) (x t : Int) (ht : 0 ≤ t) (it : I64 t) (ok : sumI C (m + 1) + t ≤ 9223372036854775807) :
    Calls Try.prog 18 #[.pointer (some ⟨b, 0, none⟩), .int .i64 x, .int .i64 t] w fun e w' => e = .returned (.int .i64 0) ∧ HM B w' b vB vC m V (updI C (bk V x m) (C (bk V x m) + t)) ∧ Kp (HM.own b vB vC) w w' := by
  have T := hide (total_t M hm nn (by omega))
  have A := hide (add_ok (sumI C (m + 1)) t w (by have := sumI_nn nn (m + 1) (Nat.le_refl _); unfold I64; omega) it (by have := sumI_nn nn (m + 1) (Nat.le_refl _); unfold I64; omega))
  have BU := hide (bucket_t (M.keep (Kp.drewN [] w 1) (by simp)) hm inc x)
  obtain ⟨g, c, rfl⟩ := M.C_at
  have c1 := M.c.2
  have v0 := hide (valid_t c1)
  have hp := ptrH
  have dt : decide (t < 0) = false := by simp; omega
  have HM0 := hide M
  have rb := bk_le V x m
  have s1 := sumI_mono nn (m + 1) (bk V x m + 1) (by omega) (Nat.le_refl _)
  have s2 := sumI_nn nn (bk V x m) (by omega)
  have s3 : sumI C (bk V x m + 1) = sumI C (bk V x m) + C (bk V x m) := rfl
  have s4 := nn (bk V x m) (by omega)
  have wa := hide (show IntKind.i64.wrap (C (bk V x m) + t) = C (bk V x m) + t by rw [IntKind.wrap_i64]; omega)
  have RB := hide rb
  have HMM := hide hm
  clear M hm ht nn it ok rb s1 s2 s3 s4 inc
  generalize sumI C (m + 1) = z at *
  generalize bk V x m = r at *
  go_enter Try.func18, Try.ntmps18
  go_wp2_with fail
  refine v0.out.mono ?_
  rintro e w' ⟨rfl, rfl⟩
  go_wp2_with fail
  refine T.out.mono ?_
  rintro e w' ⟨rfl, rfl⟩
  go_wp2_with fail
  refine A.out.mono ?_
  rintro e w' ⟨rfl, rfl⟩
  go_wp2_with fail
  have MD := hide (HM0.out.keep (Kp.drewN [] w 1) (by simp))
  have b1 : (r : Int) < (m : Int) + 1 := by have := RB.out; omega
  have b0 : (0 : Int) ≤ (r : Int) := by omega
  have bu : Calls Try.prog 20 #[.pointer (some ⟨b, 0, none⟩), .int .i64 x] w.drew fun e w' => e = .returned (.int .i64 (r : Int)) ∧ Kp [] w.drew w' := BU.out
  go_region_law (first | (go_simp; go_at_call 20; refine BU.out.mono ?_; rintro e w1 ⟨rfl, k1⟩; have M1 := hide (MD.out.keep k1 (by simp)); have c11 := M1.out.c.2; have HK1 := hide k1; obtain ⟨gq, hq, e1, f1, _⟩ := row_cell M1.out.rC (show r < m + 1 by have := RB.out; omega); injection hq with hq; injection hq with hq; subst hq; rw [intsI_get C (show r < m + 1 by have := RB.out; omega)] at e1; clear k1))
  all_goals
    rw [wa.out]
    have G := hide (HM.put M1.out r (C r + t))
    have GK := hide ((((Kp.drewN [] w 1).trans0 HK1.out).mono (p := HM.own b vB (.slice (some ⟨g, 0, none⟩) (m + 1) c)) (by simp)).trans (Kp.set (o := HM.own b vB (.slice (some ⟨g, 0, none⟩) (m + 1) c)) w1 ⟨g, r, none⟩ (.int .i64 (C r + t)) (by simp [HM.own, Value.ownBlock])) (fun z hz => .inl hz))
    clear e1 f1 M1 c11 HK1 b0 b1 bu BU
    go_wp2_with fail
    go_ret
    exact ⟨rfl, G.out, GK.out⟩
end
end Go.Proofs.Ytenoalfjobghnaa
