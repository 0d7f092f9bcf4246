/- row: the largest set, the number of sets, the sum of the squares of their sizes. -/
import Derived.Test.YtfjmnidenoojhaaCp
import Derived.Test.YtfjmnidenoojhaaSq
import Derived.WalkLawsBesides
set_option linter.unusedVariables false
set_option linter.unusedSimpArgs false
namespace Go.Proofs.Ytfjmnidenoojhaa
open Go.RowKit

def rowV (L : Nat → Nat) (n : Nat) : Value := .agg #[.int .i64 ((maxTo (sz L n) n : Nat) : Int), .int .i64 ((roots L n : Nat) : Int), .int .i64 ((sumTo (sz L n) n : Nat) : Int)]
theorem Kp.set_new {w W : World} (k : Kp [] w W) {r : Nat} (hr : w.heap.size ≤ r) (i : Nat) (v : Value) : Kp [] w (W.setCell ⟨r, i, none⟩ v) :=
  k.trans (Kp.set (o := [r]) W ⟨r, i, none⟩ v (by simp)) (by intro x hx; simp at hx; subst hx; exact .inr hr)
theorem UM.cS {B : Nat} {w : World} {b n gS cS : Nat} {P Z : Nat → Nat} {G : List Nat} {vP vG : Value} (M : UM B w b vP (.slice (some ⟨gS, 0, none⟩) n cS) vG n P Z G) {k : Nat} (hk : k < n) : w.cell? ⟨gS, k, none⟩ = some (.int .i64 ((Z k : Nat) : Int)) := by
  obtain ⟨_, hpp, e, _, _⟩ := row_cell M.S hk
  injection hpp with hpp; injection hpp with hpp; subst hpp
  rw [e, intsF_get Z hk]
theorem build40 (x : Int) (w : World) : (Instr.build 40 #[(1, .int .i64 x)]).run Try.prog w = .ok (.agg #[.int .i64 0, .int .i64 x, .int .i64 0]) w := by kernel_rfl
set_option maxRecDepth 100000 in
set_option maxHeartbeats 16000000 in
theorem row_m {B : Nat} {w : World} {b n : Nat} {P Z R L : Nat → Nat} {G : List Nat} {vP vS vG : Value} (M : UM B w b vP vS vG n P Z G) (u : UI n P Z R L G) (hn : n ≤ 65536) :
    Calls Try.prog 43 #[.pointer (some ⟨b, 0, none⟩)] w fun e w' => e = .returned (rowV L n) ∧ Kp [] w w' := by
  obtain ⟨pP, cP, rfl⟩ := row_slice M.P
  obtain ⟨pS, cS, rfl⟩ := row_slice M.S
  have hp := upPtr
  have HM := hide M
  have HU := hide u
  have HN := hide hn
  have HE := hide (show rowV L n = .agg #[.int .i64 ((maxTo (fun i => cnt R i n) n : Nat) : Int), .int .i64 ((roots L n : Nat) : Int), .int .i64 ((sumTo (fun i => cnt R i n * cnt R i n) n : Nat) : Int)] by unfold rowV; rw [u.sum, u.max])
  clear M u hn
  go_enter Try.func43, Try.ntmps43
  go_wp2_with fail
  obtain ⟨W0, hW0⟩ : ∃ W0, W0 = w.alloc (.cells #[.int .i64 0, .int .i64 0, .int .i64 0] 40) := ⟨_, rfl⟩
  rw [← hW0]
  have K0 : Kp [] w W0 := by rw [hW0]; exact Kp.alloc _ _
  have q0 : W0.heap[w.heap.size]? = some (.cells #[.int .i64 0, .int .i64 0, .int .i64 0] 40 (0, 0)) := by rw [hW0]; exact heap_alloc_new _ _
  have C0 := hide (count_m (HM.out.keep K0 (by simp)) HU.out HN.out)
  have HK0 := hide K0
  have HQ0 := hide q0
  clear hW0 K0 q0
  refine C0.out.mono ?_
  rintro e W1 ⟨rfl, b1⟩
  have zr : w.heap.size < W1.heap.size := by have := b1.size; have := lt_of_blk HQ0.out; omega
  have K1 : Kp [] w W1 := HK0.out.trans (Kp.of_below (o := []) b1) (by simp)
  have q1 : W1.heap[w.heap.size]? = some (.cells #[.int .i64 0, .int .i64 0, .int .i64 0] 40 (0, 0)) := by rw [b1.block _ (lt_of_blk HQ0.out)]; exact HQ0.out
  have M1 := HM.out.keep K1 (by simp)
  obtain ⟨c0, c1, c2, c3⟩ := M1.c
  have HM1 := hide M1
  have HK1 := hide K1
  have HQ1 := hide q1
  have hb := build40 ((roots L n : Nat) : Int) W1
  have ca := (HM1.out.keep (Kp.alloc (o := []) W1 (.cells #[.int .i64 0, .int .i64 ((roots L n : Nat) : Int), .int .i64 0] 40)) (by simp)).c.2.1
  clear C0 b1 K1 q1 M1
  go_wp2_with fail
  obtain ⟨W2, hW2⟩ : ∃ W2, W2 = W1.alloc (.cells #[.int .i64 0, .int .i64 ((roots L n : Nat) : Int), .int .i64 0] 40) := ⟨_, rfl⟩
  rw [← hW2]
  have HK2 : Hid (Kp [] w W2) := by rw [hW2]; exact HK1.out.trans (Kp.alloc (o := []) _ _) (by simp)
  have HR2 : Hid (W2.heap[W1.heap.size]? = some (.cells #[.int .i64 0, .int .i64 ((roots L n : Nat) : Int), .int .i64 0] 40 (0, 0))) := by rw [hW2]; exact heap_alloc_new _ _
  have HQ2 : Hid (W2.heap[w.heap.size]? = some (.cells #[.int .i64 0, .int .i64 0, .int .i64 0] 40 (0, 0))) := by rw [hW2]; exact (Kp.alloc (o := []) _ _).blk HQ1.out (by simp)
  obtain ⟨r, hr⟩ : ∃ r, r = W1.heap.size := ⟨_, rfl⟩
  rw [← hr] at zr HR2 ⊢
  have HZR := hide zr
  clear hW2 hb ca c0 c1 c2 c3 HM1 HK1 HQ1 HK0 HQ0 zr hr
  go_loopw [14] (fun i wr => ∃ k : Nat, k ≤ n ∧ i = .int .i64 (k : Int) ∧ Hid (Kp [] w wr) ∧ Hid (wr.heap[r]? = some (.cells #[.int .i64 ((maxTo (fun i => cnt R i n) k : Nat) : Int), .int .i64 ((roots L n : Nat) : Int), .int .i64 ((sumTo (fun i => cnt R i n * cnt R i n) k : Nat) : Int)] 40 (0, 0))) ∧ Hid (wr.heap[w.heap.size]? = some (.cells #[.int .i64 0, .int .i64 0, .int .i64 0] 40 (0, 0)))) (fun i _ => n - (intOf i).toNat)
  case atStart => exact ⟨0, Nat.zero_le _, rfl, HK2, HR2, HQ2⟩
  case round =>
    obtain ⟨k, hk, rfl, hK, hR, hQ⟩ := hrel
    by_cases hlt : k < n
    · have dk : decide ((k : Int) < (n : Int)) = true := by simp; omega
      have M1 := HM.out.keep hK.out (by simp)
      obtain ⟨c0, c1, c2, c3⟩ := M1.c
      have HM1 := hide M1
      obtain ⟨gP, rfl, e1, f1, _⟩ := row_cell M1.P hlt
      obtain ⟨gS, rfl, e2, f2, _⟩ := row_cell M1.S hlt
      rw [intsF_get P hlt] at e1
      rw [intsF_get Z hlt] at e2
      have ww : IntKind.i64.wrap ((k : Int) + 1) = ((k + 1 : Nat) : Int) := by have := HN.out; rw [IntKind.wrap_i64]; omega
      have AR := HU.out.at_root hlt
      by_cases hroot : P k = k
      · have ez := AR.1 hroot
        rw [hroot] at e1
        rw [ez] at e2
        have r0 : wr.cell? ⟨r, 0, none⟩ = some (.int .i64 ((maxTo (fun i => cnt R i n) k : Nat) : Int)) := by simp [cell_of_blk hR.out]
        have r2 : wr.cell? ⟨r, 2, none⟩ = some (.int .i64 ((sumTo (fun i => cnt R i n * cnt R i n) k : Nat) : Int)) := by simp [cell_of_blk hR.out]
        have fr0 : wr.frozen? ⟨r, 0, none⟩ = false := free_of_blk hR.out 0
        have fr2 : wr.frozen? ⟨r, 2, none⟩ = false := free_of_blk hR.out 2
        have NX := hide (And.intro (show maxTo (fun i => cnt R i n) (k + 1) = max (maxTo (fun i => cnt R i n) k) (cnt R k n) from rfl) (show sumTo (fun i => cnt R i n * cnt R i n) (k + 1) = sumTo (fun i => cnt R i n * cnt R i n) k + cnt R k n * cnt R k n from rfl))
        have HM2 := hide M1
        have sb := cnt_le R k n
        have HSB := hide sb
        have S1 := sumTo_le (g := fun i => cnt R i n * cnt R i n) (b := 65536 * 65536) k (fun i _ => Nat.mul_le_mul (Nat.le_trans (cnt_le R i n) HN.out) (Nat.le_trans (cnt_le R i n) HN.out))
        have S2 := Nat.mul_le_mul (Nat.le_trans sb HN.out) (Nat.le_trans sb HN.out)
        have S3 := Nat.mul_le_mul (show k ≤ 65536 by have := HN.out; omega) (Nat.le_refl (65536 * 65536))
        have ZK := hide ez
        clear AR hroot ez c0 c3 M1 f1 f2 sb
        generalize maxTo (fun i => cnt R i n) k = mx at *
        generalize sumTo (fun i => cnt R i n * cnt R i n) k = sq at *
        generalize cnt R k n = s at *
        obtain ⟨s2, hs2⟩ : ∃ s2, s2 = s * s := ⟨_, rfl⟩
        have mulc : (s : Int) * (s : Int) = (s2 : Int) := by rw [hs2, Int.natCast_mul]
        have wm : IntKind.i64.wrap (s2 : Int) = (s2 : Int) := by rw [IntKind.wrap_i64]; omega
        obtain ⟨t, ht⟩ : ∃ t, t = sq + s2 := ⟨_, rfl⟩
        have addc : (sq : Int) + (s2 : Int) = (t : Int) := by omega
        have wa : IntKind.i64.wrap (t : Int) = (t : Int) := by rw [IntKind.wrap_i64]; omega
        have mxc : max (mx : Int) (s : Int) = ((max mx s : Nat) : Int) := by omega
        rw [← hs2, ← ht] at NX
        clear S1 S2 S3 hs2 ht
        rcases Nat.lt_or_ge mx s with hms | hms
        · skip
          have dm : decide (mx < s) = true := by simp; omega
          have eX : max mx s = s := by omega
          rw [eX] at NX
          have hno : (mx : Int) < (s : Int) := by omega
          clear mxc
          go_wp2_with fail
          refine wp_region_still_tail 11 (by kernel_rfl) (by kernel_rfl) ?_
          simp only [List.take_succ_cons, List.take_zero, List.drop_succ_cons, List.drop_zero]
          obtain ⟨wd, hwd⟩ : ∃ wd, wd = ({ wr with drawn := wr.drawn + 1 } : World) := ⟨_, rfl⟩
          rw [← hwd]
          have kd : Kp [] wr wd := by rw [hwd]; exact Kp.drewN [] wr 1
          have RD := kd.blk hR.out (by simp)
          have MD := HM2.out.keep kd (by simp)
          have r0' : wd.cell? ⟨r, 0, none⟩ = some (.int .i64 (mx : Int)) := by simp [cell_of_blk RD]
          have fr0' : wd.frozen? ⟨r, 0, none⟩ = false := free_of_blk RD 0
          have c2' := MD.c.2.2.1
          have e2' : wd.cell? ⟨gS, k, none⟩ = some (.int .i64 (s : Int)) := by rw [hwd]; exact e2
          have K3 := hide ((hK.out.trans kd (by simp)).set_new (Nat.le_of_lt HZR.out) 0 (.int .i64 (s : Int)))
          have HR3 := hide (heap_setCell_same wd r 0 _ _ (.int .i64 (s : Int)) RD)
          have Q3 := hide ((Kp.set (o := [r]) wd ⟨r, 0, none⟩ (.int .i64 (s : Int)) (by simp)).blk (kd.blk hQ.out (by simp)) (by have := HZR.out; simp; omega))
          clear hwd kd RD MD r0 r2 fr0 fr2 c2 e2 hR hQ hK HM2 c1 e1 HM1
          repeat still_step
          refine wpStill_nil ?_
          go_wp2_with fail
          generalize wd.setCell ⟨r, 0, none⟩ (.int .i64 (s : Int)) = V at *
          clear r0' fr0' c2' e2' dm
          refine wp_region_still_tail 19 (by kernel_rfl) (by kernel_rfl) ?_
          simp only [List.take_succ_cons, List.take_zero, List.drop_succ_cons, List.drop_zero]
          obtain ⟨wd2, hwd⟩ : ∃ wd2, wd2 = ({ V with drawn := V.drawn + 1 } : World) := ⟨_, rfl⟩
          rw [← hwd]
          have kd : Kp [] V wd2 := by rw [hwd]; exact Kp.drewN [] V 1
          have RD := kd.blk HR3.out (by simp)
          have M4 := HM.out.keep (K3.out.trans kd (by simp)) (by simp)
          have r2' : wd2.cell? ⟨r, 2, none⟩ = some (.int .i64 (sq : Int)) := by simp [cell_of_blk RD]
          have fr2' : wd2.frozen? ⟨r, 2, none⟩ = false := free_of_blk RD 2
          have c2' := M4.c.2.2.1
          have e2' := M4.cS hlt
          rw [ZK.out] at e2'
          have K4 := hide ((K3.out.trans kd (by simp)).set_new (Nat.le_of_lt HZR.out) 2 (.int .i64 (t : Int)))
          have HR4 := hide (heap_setCell_same wd2 r 2 _ _ (.int .i64 (t : Int)) RD)
          have Q4 := hide ((Kp.set (o := [r]) wd2 ⟨r, 2, none⟩ (.int .i64 (t : Int)) (by simp)).blk (kd.blk Q3.out (by simp)) (by have := HZR.out; simp; omega))
          clear hwd kd RD M4 K3 HR3 Q3
          repeat still_step
          refine wpStill_nil ?_
          go_wp2_with fail
          go_roundw
          case rel => exact ⟨k + 1, by omega, rfl, K4, by rw [NX.out.1, NX.out.2]; exact HR4, Q4⟩
          case measure => simp [intOf]; omega
        · skip
          have dm : decide (mx < s) = false := by simp; omega
          have eX : max mx s = mx := by omega
          rw [eX] at NX
          have hno : ¬ mx < s := by omega
          clear mxc
          go_wp2_with fail
          refine wp_region_still_tail 11 (by kernel_rfl) (by kernel_rfl) ?_
          simp only [List.take_succ_cons, List.take_zero, List.drop_succ_cons, List.drop_zero]
          obtain ⟨wd, hwd⟩ : ∃ wd, wd = ({ wr with drawn := wr.drawn + 1 } : World) := ⟨_, rfl⟩
          rw [← hwd]
          have kd : Kp [] wr wd := by rw [hwd]; exact Kp.drewN [] wr 1
          have RD := kd.blk hR.out (by simp)
          have MD := HM2.out.keep kd (by simp)
          have r0' : wd.cell? ⟨r, 0, none⟩ = some (.int .i64 (mx : Int)) := by simp [cell_of_blk RD]
          have fr0' : wd.frozen? ⟨r, 0, none⟩ = false := free_of_blk RD 0
          have c2' := MD.c.2.2.1
          have e2' : wd.cell? ⟨gS, k, none⟩ = some (.int .i64 (s : Int)) := by rw [hwd]; exact e2
          have K3 := hide ((hK.out.trans kd (by simp)).set_new (Nat.le_of_lt HZR.out) 0 (.int .i64 (mx : Int)))
          have HR3 := hide (heap_setCell_same wd r 0 _ _ (.int .i64 (mx : Int)) RD)
          have Q3 := hide ((Kp.set (o := [r]) wd ⟨r, 0, none⟩ (.int .i64 (mx : Int)) (by simp)).blk (kd.blk hQ.out (by simp)) (by have := HZR.out; simp; omega))
          clear hwd kd RD MD r0 r2 fr0 fr2 c2 e2 hR hQ hK HM2 c1 e1 HM1
          repeat still_step
          refine wpStill_nil ?_
          go_wp2_with fail
          generalize wd.setCell ⟨r, 0, none⟩ (.int .i64 (mx : Int)) = V at *
          clear r0' fr0' c2' e2' dm
          refine wp_region_still_tail 19 (by kernel_rfl) (by kernel_rfl) ?_
          simp only [List.take_succ_cons, List.take_zero, List.drop_succ_cons, List.drop_zero]
          obtain ⟨wd2, hwd⟩ : ∃ wd2, wd2 = ({ V with drawn := V.drawn + 1 } : World) := ⟨_, rfl⟩
          rw [← hwd]
          have kd : Kp [] V wd2 := by rw [hwd]; exact Kp.drewN [] V 1
          have RD := kd.blk HR3.out (by simp)
          have M4 := HM.out.keep (K3.out.trans kd (by simp)) (by simp)
          have r2' : wd2.cell? ⟨r, 2, none⟩ = some (.int .i64 (sq : Int)) := by simp [cell_of_blk RD]
          have fr2' : wd2.frozen? ⟨r, 2, none⟩ = false := free_of_blk RD 2
          have c2' := M4.c.2.2.1
          have e2' := M4.cS hlt
          rw [ZK.out] at e2'
          have K4 := hide ((K3.out.trans kd (by simp)).set_new (Nat.le_of_lt HZR.out) 2 (.int .i64 (t : Int)))
          have HR4 := hide (heap_setCell_same wd2 r 2 _ _ (.int .i64 (t : Int)) RD)
          have Q4 := hide ((Kp.set (o := [r]) wd2 ⟨r, 2, none⟩ (.int .i64 (t : Int)) (by simp)).blk (kd.blk Q3.out (by simp)) (by have := HZR.out; simp; omega))
          clear hwd kd RD M4 K3 HR3 Q3
          repeat still_step
          refine wpStill_nil ?_
          go_wp2_with fail
          go_roundw
          case rel => exact ⟨k + 1, by omega, rfl, K4, by rw [NX.out.1, NX.out.2]; exact HR4, Q4⟩
          case measure => simp [intOf]; omega
      · have ne : ((P k : Int) == (k : Int)) = false := by simp; omega
        have ez := AR.2 hroot
        have q1 : maxTo (fun i => cnt R i n) (k + 1) = maxTo (fun i => cnt R i n) k := by simp [maxTo, ez]
        have q2 : sumTo (fun i => cnt R i n * cnt R i n) (k + 1) = sumTo (fun i => cnt R i n * cnt R i n) k := by simp [sumTo, ez]
        have NR : Hid (wr.heap[r]? = some (.cells #[.int .i64 ((maxTo (fun i => cnt R i n) (k + 1) : Nat) : Int), .int .i64 ((roots L n : Nat) : Int), .int .i64 ((sumTo (fun i => cnt R i n * cnt R i n) (k + 1) : Nat) : Int)] 40 (0, 0))) := by rw [q1, q2]; exact hR
        clear AR hroot ez q1 q2 hR M1
        generalize P k = pk at *
        go_wp2_with fail
        go_roundw
        case rel => exact ⟨k + 1, by omega, rfl, hK, NR, hQ⟩
        case measure => simp [intOf]; omega
    · have : k = n := by omega
      subst this
      have dk : decide ((k : Int) < (k : Int)) = false := by simp
      have dk2 : decide (k < k) = false := by simp
      have r0 : wr.cell? ⟨r, 0, none⟩ = some (.int .i64 ((maxTo (fun i => cnt R i k) k : Nat) : Int)) := by simp [cell_of_blk hR.out]
      have r1 : wr.cell? ⟨r, 1, none⟩ = some (.int .i64 ((roots L k : Nat) : Int)) := by simp [cell_of_blk hR.out]
      have r2 : wr.cell? ⟨r, 2, none⟩ = some (.int .i64 ((sumTo (fun i => cnt R i k * cnt R i k) k : Nat) : Int)) := by simp [cell_of_blk hR.out]
      have z0 : wr.cell? ⟨w.heap.size, 0, none⟩ = some (.int .i64 0) := by simp [cell_of_blk hQ.out]
      have z1 : wr.cell? ⟨w.heap.size, 1, none⟩ = some (.int .i64 0) := by simp [cell_of_blk hQ.out]
      have z2 : wr.cell? ⟨w.heap.size, 2, none⟩ = some (.int .i64 0) := by simp [cell_of_blk hQ.out]
      have y0 : wr.frozen? ⟨w.heap.size, 0, none⟩ = false := free_of_blk hQ.out 0
      have y1 : wr.frozen? ⟨w.heap.size, 1, none⟩ = false := free_of_blk hQ.out 1
      have y2 : wr.frozen? ⟨w.heap.size, 2, none⟩ = false := free_of_blk hQ.out 2
      go_wp2_with fail
      rw [HE.out]
      refine bodyPost_ret (v := .agg #[.int .i64 ((maxTo (fun i => cnt R i k) k : Nat) : Int), .int .i64 ((roots L k : Nat) : Int), .int .i64 ((sumTo (fun i => cnt R i k * cnt R i k) k : Nat) : Int)]) (by simp [results, Try.results43, go_sem, z0, z1, z2]) rfl ⟨rfl, ?_⟩
      exact ((hK.out.set_new (Nat.le_refl _) _ _).set_new (Nat.le_refl _) _ _).set_new (Nat.le_refl _) _ _
end Go.Proofs.Ytfjmnidenoojhaa
