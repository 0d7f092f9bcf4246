/- FenwickNil holds: counters that are nil, or were not made by New, are as the document says. -/
import Derived.Test.YtgcnccfmfnifbaaFK
import Derived.Test.YtgcnccfmfnifbaaOp
import Derived.Test.YtgcnccfmfnifbaaRows
import Derived.Deep.CutRange
import Derived.StillTailTactics
set_option linter.unusedVariables false
set_option linter.unusedSimpArgs false
namespace Go.Proofs.Ytgcnccfmfnifbaa
open Go.RowKit
theorem buildz (w : World) : (Instr.build 41 #[]).run Try.prog w = .ok (.agg #[.bool false, .int .i64 0, .slice none 0 0]) w := by kernel_rfl
theorem mks (a : Addr) (w : World) : (Instr.buildSlice 42 2 #[(0, .pointer none), (1, .pointer (some a))]).run Try.prog w = .ok (.slice (some ⟨w.heap.size, 0, none⟩) 2 2) (w.alloc (.cells #[.pointer none, .pointer (some a)] 24)) := by kernel_rfl
theorem wpList_ms {w : World} {ops : Array Oper} {rest : List Oper} {o : Oper} {a : Act} {Q : Exit → Act → World → Prop} (hgd : o.guard = none) (x y : Operand) (ho : o.op = .buildSlice 42 2 #[(0, x), (1, y)]) (ad : Addr) (hx : a.eval x = .pointer none) (hy : a.eval y = .pointer (some ad))
    (h : wpList Try.prog ops Q rest (a.put o.dst (.slice (some ⟨w.heap.size, 0, none⟩) 2 2)) (w.alloc (.cells #[.pointer none, .pointer (some ad)] 24))) : wpList Try.prog ops Q (o :: rest) a w := by
  refine wpList_plain hgd fun K hK => ?_
  have hr := mks ad w
  unfold Oper.wp
  simp only [execOp, ho]
  simp [hx, hy, hr, Result.andThen, Sem.run_bind]
  exact hK _ _ h
theorem heap_size_alloc1 (w : World) {o : Obj} : (w.alloc o).heap.size = w.heap.size + 1 := by simp
namespace lawNil
open Go.ChangeShapes Go.WideShapes Go.ChangeAt Go.RowKit Go.Joins
set_option maxRecDepth 100000 in
set_option maxHeartbeats 8000000 in
theorem walk (z0_0 : Int) (z0_1 : Int) (z0_2 : Int) (z0_3 : Int) (z0_4 : Int) (z0_5 : Int) (w : World) (b0_0 : -9223372036854775808 ≤ z0_0 ∧ z0_0 ≤ 9223372036854775807) (b0_1 : -9223372036854775808 ≤ z0_1 ∧ z0_1 ≤ 9223372036854775807) (b0_2 : -9223372036854775808 ≤ z0_2 ∧ z0_2 ≤ 9223372036854775807) (b0_3 : -9223372036854775808 ≤ z0_3 ∧ z0_3 ≤ 9223372036854775807) (b0_4 : -9223372036854775808 ≤ z0_4 ∧ z0_4 ≤ 9223372036854775807) (b0_5 : -9223372036854775808 ≤ z0_5 ∧ z0_5 ≤ 9223372036854775807) : Calls Try.prog 5 #[.agg #[.int .i64 z0_0, .int .i64 z0_1, .int .i64 z0_2, .int .i64 z0_3, .int .i64 z0_4, .int .i64 z0_5]] w fun e w' => e = .returned (.bool true) ∧ Below w.heap.size w w' := by
  have hb := fun W => buildz W
  have WK := hide works_t
  clear b0_0 b0_1 b0_2 b0_3 b0_4 b0_5
  go_enter Try.func5, Try.ntmps5
  go_wp2_with (refine wpList_ms rfl _ _ rfl _ rfl rfl ?_)
  obtain ⟨w1, hw1⟩ : ∃ w1, w1 = w.alloc (.cells #[.int .i64 z0_0, .int .i64 z0_1, .int .i64 z0_2, .int .i64 z0_3, .int .i64 z0_4, .int .i64 z0_5] 23) := ⟨_, rfl⟩
  have K1 : Hid (Kp [] w w1) := by rw [hw1]; exact Kp.alloc _ _
  have HX1 : Hid (w1.heap[w.heap.size]? = some (.cells #[.int .i64 z0_0, .int .i64 z0_1, .int .i64 z0_2, .int .i64 z0_3, .int .i64 z0_4, .int .i64 z0_5] 23 (0, 0))) := by rw [hw1]; exact heap_alloc_new _ _
  have hs1 : w1.heap.size = w.heap.size + 1 := by rw [hw1]; simp
  rw [← hw1]
  clear hw1
  obtain ⟨W, hW⟩ : ∃ W, W = ((w1.alloc (.cells #[.bool false, .int .i64 0, .slice none 0 0] 41)).alloc (.cells #[.pointer none, .pointer (some ⟨w1.heap.size, 0, none⟩)] 24)) := ⟨_, rfl⟩
  have KW : Hid (Kp [] w1 W) := by rw [hW]; exact (Kp.alloc _ _).allocK _
  have HA : Hid (W.heap[w1.heap.size + 1]? = some (.cells #[.pointer none, .pointer (some ⟨w1.heap.size, 0, none⟩)] 24 (0, 0))) := by
    rw [hW]
    have := heap_alloc_new (w1.alloc (.cells #[.bool false, .int .i64 0, .slice none 0 0] 41)) (.cells #[.pointer none, .pointer (some ⟨w1.heap.size, 0, none⟩)] 24)
    rw [heap_size_alloc1] at this
    exact this
  have HZ : Hid (W.heap[w1.heap.size]? = some (.cells #[.bool false, .int .i64 0, .slice none 0 0] 41 (0, 0))) := by
    rw [hW]; exact (Kp.alloc _ _).blk (heap_alloc_new _ _) (by simp)
  have HX := hide (KW.out.blk HX1.out (by simp))
  have KV := hide (K1.out.trans0 KW.out)
  rw [hs1] at HA HZ hW
  obtain ⟨x, hx⟩ : ∃ x, x = w.heap.size := ⟨_, rfl⟩
  obtain ⟨z, hz⟩ : ∃ z, z = x + 1 := ⟨_, rfl⟩
  obtain ⟨y, hy⟩ : ∃ y, y = z + 1 := ⟨_, rfl⟩
  rw [← hx, ← hz] at HZ hW
  rw [← hx, ← hz, ← hy] at HA
  rw [← hx] at HX ⊢
  rw [← hz, ← hy, ← hW]
  clear hW hs1 hz hy HX1 K1 KW hb hx
  have CX := hide (fun V (kV : Kp [] W V) => show V.cell? ⟨x, 1, none⟩ = some (.int .i64 z0_1) ∧ V.cell? ⟨x, 2, none⟩ = some (.int .i64 z0_2) ∧ V.cell? ⟨x, 3, none⟩ = some (.int .i64 z0_3) ∧ V.cell? ⟨x, 4, none⟩ = some (.int .i64 z0_4) ∧ V.cell? ⟨x, 5, none⟩ = some (.int .i64 z0_5) by simp [cell_of_blk (kV.blk HX.out (by simp))])
  go_loopw [6] (fun i wr => ∃ k : Nat, k ≤ 2 ∧ i = .int .i64 (k : Int) ∧ Hid (Kp [] W wr)) (fun i _ => 2 - (intOf i).toNat)
  case atStart => exact ⟨0, by omega, rfl, Kp.refl _ _⟩
  case round =>
    obtain ⟨k, hk, rfl, hK⟩ := hrel
    by_cases hlt : k < 2
    · have A1 := hK.out.blk HA.out (by simp)
      have Z1 := hK.out.blk HZ.out (by simp)
      have ex : ∃ p, wr.cell? ⟨y, k, none⟩ = some (.pointer p) ∧ bad wr p := by
        rcases (show k = 0 ∨ k = 1 by omega) with rfl | rfl
        · exact ⟨none, by simp [cell_of_blk A1], .inl rfl⟩
        · exact ⟨some ⟨z, 0, none⟩, by simp [cell_of_blk A1], .inr ⟨z, rfl, by simp [cell_of_blk Z1]⟩⟩
      obtain ⟨p, c0, bd0⟩ := ex
      have dk : decide ((k : Int) < 2) = true := by simp; omega
      have dk' : decide (k < 2) = true := by simp; omega
      have ww : IntKind.i64.wrap ((k : Int) + 1) = ((k + 1 : Nat) : Int) := by rw [IntKind.wrap_i64]; omega
      have i1 : (k : Int) < 2 := by omega
      have HLT := hide hlt
      have BD := hide (fun V (kV : Kp [] wr V) => bd0.keep kV)
      obtain ⟨c1, c2, c3, c4, c5⟩ := CX.out _ hK.out
      clear A1 Z1 bd0 hlt hk
      go_wp2_with fail
      refine (find_f p _ (BD.out _ (Kp.refl _ _)) _).mono ?_
      rintro e w3 ⟨rfl, k3⟩
      have R3 := hide k3
      clear k3 c0 c1 c2 c3 c4 c5
      obtain ⟨c1, c2, c3, c4, c5⟩ := CX.out _ (hK.out.trans0 R3.out)
      go_wp2_with fail
      refine (add_f p _ (BD.out _ R3.out) _ _).mono ?_
      rintro e w4 ⟨rfl, k3⟩
      have R4 := hide (R3.out.trans0 k3)
      clear k3 c1 c2 c3 c4 c5
      obtain ⟨c1, c2, c3, c4, c5⟩ := CX.out _ (hK.out.trans0 R4.out)
      go_wp2_with fail
      refine (get_f p _ (BD.out _ R4.out) _).mono ?_
      rintro e w5 ⟨rfl, rfl⟩
      go_wp2_with fail
      refine (prefix_f p _ (BD.out _ R4.out) _).mono ?_
      rintro e w5 ⟨rfl, k3⟩
      have R5 := hide (R4.out.trans0 k3)
      clear k3 c1 c2 c3 c4 c5
      obtain ⟨c1, c2, c3, c4, c5⟩ := CX.out _ (hK.out.trans0 R5.out)
      go_wp2_with fail
      refine (range_f p _ (BD.out _ R5.out) _ _).mono ?_
      rintro e w6 ⟨rfl, k3⟩
      have R6 := hide (R5.out.trans0 k3)
      clear k3 c1 c2 c3 c4 c5
      go_wp2_with fail
      refine (total_f p _ (BD.out _ R6.out)).mono ?_
      rintro e w7 ⟨rfl, rfl⟩
      go_wp2_with fail
      refine (len_f p _ (BD.out _ R6.out)).mono ?_
      rintro e w7 ⟨rfl, rfl⟩
      go_wp2_with fail
      refine (copy_f p _ (BD.out _ R6.out)).mono ?_
      rintro e w7 ⟨rfl, rfl⟩
      have K6 := hide (hK.out.trans0 R6.out)
      go_wp2_with fail
      go_roundw
      case rel => exact ⟨k + 1, by have := HLT.out; omega, by go_num, K6⟩
      case measure => have := HLT.out; simp [intOf]; omega
    · have dk : decide ((k : Int) < 2) = false := by simp; omega
      have dk' : decide (k < 2) = false := by simp; omega
      have HE := hide hK.out
      clear hlt hk hK
      go_wp2_with fail
      refine (WK.out _).mono ?_
      rintro e w9 ⟨rfl, k2⟩
      have K' := hide (KV.out.trans0 (HE.out.trans0 k2))
      clear k2
      go_wp2_with fail
      go_ret
      exact ⟨rfl, K'.out.below (by simp) (Nat.le_refl _)⟩
theorem own : ownKnob Try.prog.godebug = none := by kernel_rfl
theorem laidOut : laidOutB Try.prog = true := by kernel_rfl
set_option maxRecDepth 100000 in
theorem lifted (os : Os) (started : os.Started) (H : Type) (enc : TypeId × Value → H) :
    ReturnsInHanded {} Try.checked os 5 .any (Rows.fenwickNilSpec.pre6 enc Try.prog Try.f5 Rows.fenwickNilRow.domain false) (Rows.fenwickNilSpec.post enc Try.prog Try.f5 false true false false) := by
  refine returnsInHanded_of_change (C := Try.checked) own started (by kernel_rfl) Try.func5
    (ChangeSpec.witness6 (enc := enc) (C := Try.checked) false ⟨#[], #[.agg #[.int .i64 0, .int .i64 0, .int .i64 0, .int .i64 0, .int .i64 0, .int .i64 0]], []⟩ 8 (by kernel_rfl) (by kernel_rfl) (by kernel_rfl) (by kernel_rfl)) ?_
  intro W base args ds gs before hval0 hW hcnd _
  have hval : ∀ (j : Nat) t v, Try.f5.params[j]? = some t → args[j]? = some v → Value.okWide Try.prog W .any base t v := hval0
  have hW' := hW
  obtain ⟨p, q, hA0, hV, rfl, hfz, hnd⟩ := hW
  have hA : DataW.TrodAll enc Try.prog W 0 (fun _ => true) true Try.f5.params.toList args.toList ds p := hA0
  rw [Try.params5] at hA hval
  obtain ⟨v0, vs0, d0, ds0, p0, q0, hargs, rfl, rfl, h0, r0⟩ := trodAll_cons hA
  obtain ⟨rfl, rfl, rfl⟩ := trodAll_nil r0
  obtain rfl : args = #[v0] := by cases args; simp_all
  obtain ⟨rfl, rfl⟩ := trodVars_none hV
  have k0 := h0
  have lt0 : ∀ x ∈ p0, x.block < W.heap.size := by obtain ⟨m, hm⟩ := k0; exact DataW.trod_lt m _ _ _ hm
  obtain ⟨Z0, rfl, w0⟩ := agg_in (flat_struct (ks := [.i64, .i64, .i64, .i64, .i64, .i64]) Try.underlying23 (by kernel_rfl) (by kernel_rfl)) (okWide_struct Try.underlying23 (hval 0 23 v0 rfl rfl)) h0
  clear hA0 hval0
  refine (walk (Z0 0) (Z0 1) (Z0 2) (Z0 3) (Z0 4) (Z0 5) W (bounds_i64 (w0 0 _ rfl)) (bounds_i64 (w0 1 _ rfl)) (bounds_i64 (w0 2 _ rfl)) (bounds_i64 (w0 3 _ rfl)) (bounds_i64 (w0 4 _ rfl)) (bounds_i64 (w0 5 _ rfl))).mono fun e W' ⟨he, bel⟩ => ?_
  subst he
  exact ⟨_, rfl, _, _, _, [], _, [], hW', trodAll_mk1 (shut_bool Try.underlying4 _), (trodAll_cons_mk (Below.trod laidOut (by kernel_rfl) (of_decide_eq_true (by kernel_rfl)) k0 bel lt0) trodAll_mk0), rfl, bel.frame _, fun h => by cases h⟩
theorem holds : Rows.fenwickNilRow.holds Try.pinned (OpenSpec.ofChange Rows.fenwickNilSpec) :=
  OpenClaim.holds_of_wide 5 Try.f5 rfl rfl rfl rfl rfl rfl rfl ⟨rfl, rfl, rfl, rfl, rfl⟩ rfl rfl rfl rfl rfl (by kernel_rfl) Try.func5 (by kernel_rfl)
    (of_decide_eq_true (by kernel_rfl)) (by unfold Func.isWrapper; first | (rw [if_pos (by decide +kernel)]; kernel_rfl) | (rw [if_neg (by decide +kernel)]; exact ⟨rfl, rfl⟩))
    (fun os started H enc _ => lifted os started H enc)
theorem proved : Rows.FenwickNilSaid := holds
end lawNil
end Go.Proofs.Ytgcnccfmfnifbaa
