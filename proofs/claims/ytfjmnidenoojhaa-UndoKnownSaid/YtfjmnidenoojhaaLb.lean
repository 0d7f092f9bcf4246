/- Labels: the walk. -/
import Derived.Test.YtfjmnidenoojhaaJ
set_option linter.unusedVariables false
set_option linter.unusedSimpArgs false
namespace Go.Proofs.Ytfjmnidenoojhaa
open Go.RowKit

theorem intsF_upto {n k : Nat} {L : Nat → Nat} : intsF n (upd (upto L k) k (L k)) = intsF n (upto L (k + 1)) := upto_next n k L
set_option maxRecDepth 100000 in
set_option maxHeartbeats 8000000 in
theorem labels_u {B : Nat} {w : World} {b n : Nat} {own : List Nat} {L : Nat → Nat} {H : List (Nat → Nat)} (h : US B w b own n L H) :
    Calls Try.prog 25 #[.pointer (some ⟨b, 0, none⟩)] w fun e w' => e = .returned (.slice (some ⟨w.heap.size, 0, none⟩) n n) ∧ w'.ownsRow w.heap.size 3 1 (.slice (some ⟨w.heap.size, 0, none⟩) n n) n (intsF n L) ∧ Kp [] w w' := by
  have v0 := valid_u h
  obtain ⟨P, Z, R, G, vP, vS, vG, M, u, hn, ho⟩ := h
  have hm1 : ∀ w : World, (Instr.makeSlice 49 (.int .i64 (n : Int)) (.int .i64 (n : Int))).run Try.prog w = .ok (.slice (some ⟨w.heap.size, 0, none⟩) n n) (w.alloc (.cells (madeCells #[.int .i64 0] n) 3)) :=
    fun w => run_make_row' 49 3 (.int .i64 0) 8 Try.underlying49 info3 rfl .i64 .i64 n (by omega) (by omega) w
  have hm2 : ∀ w : World, (Instr.makeSlice 72 (.int .i64 (n : Int)) (.int .i64 (n : Int))).run Try.prog w = .ok (.slice (some ⟨w.heap.size, 0, none⟩) n n) (w.alloc (.cells (madeCells #[.bool false] n) 4)) :=
    fun w => run_make_row' 72 4 (.bool false) 1 Try.underlying72 info4 rfl .i64 .i64 n (by omega) (by omega) w
  have HI := hide u.inv
  have HM := hide M
  have HOL := hide (show ∀ x ∈ b :: (vP.ownBlock.toList ++ (vS.ownBlock.toList ++ vG.ownBlock.toList)), x ∉ ([] : List Nat) by simp)
  have D0 := hide (LM.start w n hn)
  have HN := hide hn
  obtain ⟨c0, c1, c2, c3⟩ := M.c
  obtain ⟨p, c, rfl⟩ := row_slice M.P
  have hp := upPtr
  have ca := ((HM.out.keep (Kp.alloc (o := []) w (.cells (madeCells #[.int .i64 0] n) 3)) HOL.out).c).2.1
  have cb := (((HM.out.keep (Kp.alloc (o := []) w (.cells (madeCells #[.int .i64 0] n) 3)) HOL.out).keep (Kp.alloc (o := []) _ (.cells (madeCells #[.int .i64 0] n) 3)) HOL.out).c).2.1
  clear M u ho c0 c2 c3 hn
  go_enter Try.func25, Try.ntmps25
  go_wp2_with fail
  refine v0.mono ?_
  rintro e w' ⟨rfl, rfl⟩
  go_wp2_with fail
  generalize ((w.alloc (.cells (madeCells #[.int .i64 0] n) 3)).alloc (.cells (madeCells #[.int .i64 0] n) 3)).alloc (.cells (madeCells #[.bool false] n) 4) = W at *
  clear hm1 hm2 v0 c1 ca cb
  have D1 : Hid (LM w W w.heap.size (w.heap.size + 1) (w.heap.size + 1 + 1) n (upto L 0) (least R L 0) (met R 0)) := by
    rw [show upto L 0 = fun _ => 0 from funext fun i => by simp [upto], show least R L 0 = fun _ => 0 from funext fun i => by simp [least, met]]
    exact D0
  clear D0
  have g12 : w.heap.size ≠ w.heap.size + 1 := by omega
  obtain ⟨g1, hg1⟩ : ∃ g, g = w.heap.size := ⟨_, rfl⟩
  obtain ⟨g2, hg2⟩ : ∃ g, g = w.heap.size + 1 := ⟨_, rfl⟩
  obtain ⟨g3, hg3⟩ : ∃ g, g = w.heap.size + 1 + 1 := ⟨_, rfl⟩
  have D2 : Hid (LM w W g1 g2 g3 n (upto L 0) (least R L 0) (met R 0)) := by rw [hg1, hg2, hg3]; exact D1
  clear D1 g12
  rw [← hg3, ← hg2, ← hg1]
  have HG := hide hg1
  clear hg1 hg2 hg3
  go_loopw [31] (fun x wr => ∃ k : Nat, k ≤ n ∧ x = .int .i64 (k : Int) ∧ Hid (LM w wr g1 g2 g3 n (upto L k) (least R L k) (met R k))) (fun x _ => n - (intOf x).toNat)
  case atStart => exact ⟨0, by omega, rfl, D2⟩
  case round =>
    obtain ⟨k, hk, rfl, hD⟩ := hrel
    by_cases hkn : k < n
    · have dk : decide ((k : Int) < (n : Int)) = true := by simp; omega
      have dkn : decide (k < n) = true := by simp; omega
      have ww : IntKind.i64.wrap ((k : Int) + 1) = ((k + 1 : Nat) : Int) := by have := HN.out; rw [IntKind.wrap_i64]; omega
      have R1 := hide (root_m (HM.out.keep hD.out.kp HOL.out) HI.out k hkn)
      have rl := HI.out.rl k hkn
      obtain ⟨_, hpp, e1, f1, _⟩ := row_cell hD.out.r1 hkn
      injection hpp with hpp; injection hpp with hpp; subst hpp
      obtain ⟨_, hpp, e2, f2, _⟩ := row_cell hD.out.r2 rl
      injection hpp with hpp; injection hpp with hpp; subst hpp
      obtain ⟨_, hpp, e3, f3, _⟩ := row_cell hD.out.r3 rl
      injection hpp with hpp; injection hpp with hpp; subst hpp
      rw [intsF_get _ hkn] at e1
      rw [intsF_get _ rl] at e2
      rw [boolsF_get _ rl] at e3
      obtain ⟨ne1, ne2, ne3⟩ := hD.out.ne
      have eL : L (R k) = L k := (HI.out.lr _ _ rl hkn).2 (HI.out.rr k hkn)
      cases hm : met R k (R k)
      · rw [hm] at e3
        have fk := HI.out.first hkn hm
        have N1 := hide ((hD.out.set3 (R k)).set2 (R k) (L (R k)))
        rw [least_new hm, ← met_succ, fk] at N1
        have N2 := hide (N1.out.set1 k k)
        have q1 : intsF n (upd (upto L k) k k) = intsF n (upto L (k + 1)) := by
          have := upto_next n k L
          rw [← eL, fk] at this
          exact this
        have N3 : Hid (LM w _ g1 g2 g3 n (upto L (k + 1)) (least R L (k + 1)) (met R (k + 1))) := ⟨N2.out.kp, by rw [← q1]; exact N2.out.r1, N2.out.r2, N2.out.r3, N2.out.lo, N2.out.ne⟩
        have cl := N1.out.r2.cellAt (R k) (by omega)
        rw [intsF_get _ rl, show least R L (k + 1) (R k) = k by simp [least, met, sb, fk]] at cl
        clear N1 N2 q1 hD hm fk eL
        generalize R k = r at *
        go_wp2_with fail
        refine R1.out.mono ?_
        rintro e w1 ⟨rfl, rfl⟩
        go_wp2_with fail
        go_roundw
        case rel => exact ⟨k + 1, by omega, rfl, N3⟩
        case measure => simp [intOf]; omega
      · rw [hm] at e3
        have el : least R L k (R k) = L k := by simp [least, hm, eL]
        rw [el] at e2
        have N2 := hide (hD.out.set1 k (L k))
        have N3 : Hid (LM w _ g1 g2 g3 n (upto L (k + 1)) (least R L (k + 1)) (met R (k + 1))) := ⟨N2.out.kp, by rw [← upto_next n k L]; exact N2.out.r1, by rw [show least R L (k + 1) = least R L k by unfold least; rw [met_old hm]]; exact N2.out.r2, by rw [met_old hm]; exact N2.out.r3, N2.out.lo, N2.out.ne⟩
        clear N2 hD hm el eL
        generalize R k = r at *
        generalize L k = lk at *
        go_wp2_with fail
        refine R1.out.mono ?_
        rintro e w1 ⟨rfl, rfl⟩
        go_wp2_with fail
        go_roundw
        case rel => exact ⟨k + 1, by omega, rfl, N3⟩
        case measure => simp [intOf]; omega
    · have : k = n := by omega
      subst this
      have dk : decide ((k : Int) < (k : Int)) = false := by simp
      have dkn : decide (k < k) = false := by simp
      go_wp2_with fail
      go_ret
      refine ⟨by rw [HG.out]; rfl, ?_, hD.out.kp⟩
      have := hD.out.r1
      rw [intsF_congr (g := L) (fun i hi => by simp [upto, hi]), HG.out] at this
      exact this
end Go.Proofs.Ytfjmnidenoojhaa
