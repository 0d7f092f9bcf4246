/- HistoNil holds: histograms that are nil, or were not made by New, are as the document says. -/
import Derived.Test.YtenoalfjobghnaaHK
import Derived.Test.YtenoalfjobghnaaOp
import Derived.Test.YtenoalfjobghnaaRows
import Derived.Deep.CutRange
set_option linter.unusedVariables false
set_option linter.unusedSimpArgs false
namespace Go.Proofs.Ytenoalfjobghnaa
open Go.RowKit
theorem buildz (w : World) : (Instr.build 54 #[]).run Try.prog w = .ok (.agg #[.slice none 0 0, .slice none 0 0]) w := by kernel_rfl
theorem lit1 (a : Int) (w : World) : (Instr.buildSlice 22 1 #[(0, .int .i64 a)]).run Try.prog w = .ok (.slice (some ⟨w.heap.size, 0, none⟩) 1 1) (w.alloc (.cells #[.int .i64 a] 2)) := by kernel_rfl
theorem mks (a : Addr) (w : World) : (Instr.buildSlice 55 2 #[(0, .pointer none), (1, .pointer (some a))]).run Try.prog w = .ok (.slice (some ⟨w.heap.size, 0, none⟩) 2 2) (w.alloc (.cells #[.pointer none, .pointer (some a)] 24)) := by kernel_rfl
theorem wpList_ms {w : World} {ops : Array Oper} {rest : List Oper} {o : Oper} {a : Act} {Q : Exit → Act → World → Prop} (hgd : o.guard = none) (x y : Operand) (ho : o.op = .buildSlice 55 2 #[(0, x), (1, y)]) (ad : Addr) (hx : a.eval x = .pointer none) (hy : a.eval y = .pointer (some ad))
    (h : wpList Try.prog ops Q rest (a.put o.dst (.slice (some ⟨w.heap.size, 0, none⟩) 2 2)) (w.alloc (.cells #[.pointer none, .pointer (some ad)] 24))) : wpList Try.prog ops Q (o :: rest) a w := by
  refine wpList_plain hgd fun K hK => ?_
  have hr := mks ad w
  unfold Oper.wp
  simp only [execOp, ho]
  simp [hx, hy, hr, Result.andThen, Sem.run_bind]
  exact hK _ _ h
theorem heap_size_alloc1 (w : World) {o : Obj} : (w.alloc o).heap.size = w.heap.size + 1 := by simp
theorem rd_one (x : Int) (w : World) : Rd1 (w.alloc (.cells #[.int .i64 x] 2)) (some ⟨w.heap.size, 0, none⟩) 1 (fun _ => x) := by
  refine .inr ⟨w.heap.size, 0, rfl, by simp, fun i hi => ?_⟩
  rw [World.cell?_alloc_new]
  obtain rfl : i = 0 := by omega
  rfl
namespace lawNil
open Go.ChangeShapes Go.WideShapes Go.ChangeAt Go.RowKit Go.Joins
set_option maxRecDepth 100000 in
set_option maxHeartbeats 8000000 in
theorem walk (a0 a1 a2 : Int) (w : World) (b0 : -9223372036854775808 ≤ a0 ∧ a0 ≤ 9223372036854775807) (b1 : -9223372036854775808 ≤ a1 ∧ a1 ≤ 9223372036854775807) (b2 : -9223372036854775808 ≤ a2 ∧ a2 ≤ 9223372036854775807) : Calls Try.prog 8 #[.int .i64 a0, .int .i64 a1, .int .i64 a2] w fun e w' => e = .returned (.bool true) ∧ Below w.heap.size w w' := by
  have hb := fun W => buildz W
  have m1 := fun W => lit1 a0 W
  have N := fun W => hide (new_t (c := 1) (rd_one a0 W) (by omega) (fun i j h1 h2 => absurd h2 (by omega)))
  clear b0 b1 b2
  go_enter Try.func8, Try.ntmps8
  go_wp2_with fail
  refine (N _).out.mono ?_
  rintro e w1 ⟨bg, vB, vC, rfl, M, k⟩
  have K1 := hide ((Kp.alloc (o := []) w (.cells #[.int .i64 a0] 2)).trans0 k)
  have M1 := hide M
  clear M k N m1
  go_wp2_with (refine wpList_ms rfl _ _ rfl _ rfl rfl ?_)
  obtain ⟨W, hW⟩ : ∃ W, W = ((w1.alloc (.cells #[.slice none 0 0, .slice none 0 0] 54)).alloc (.cells #[.pointer none, .pointer (some ⟨w1.heap.size, 0, none⟩)] 24)) := ⟨_, rfl⟩
  have KW : Hid (Kp [] w1 W) := by rw [hW]; exact (Kp.alloc (o := []) _ _).allocK _
  have HA : Hid (W.heap[w1.heap.size + 1]? = some (.cells #[.pointer none, .pointer (some ⟨w1.heap.size, 0, none⟩)] 24 (0, 0))) := by
    rw [hW]
    have := heap_alloc_new (w1.alloc (.cells #[.slice none 0 0, .slice none 0 0] 54)) (.cells #[.pointer none, .pointer (some ⟨w1.heap.size, 0, none⟩)] 24)
    rw [heap_size_alloc1] at this
    exact this
  have HZ : Hid (W.heap[w1.heap.size]? = some (.cells #[.slice none 0 0, .slice none 0 0] 54 (0, 0))) := by
    rw [hW]; exact (Kp.alloc (o := []) _ _).blk (heap_alloc_new _ _) (by simp)
  rw [← hW]
  have MW := hide (M1.out.keep KW.out (by simp))
  clear hW hb
  obtain ⟨y, hy⟩ : ∃ y, y = w1.heap.size + 1 := ⟨_, rfl⟩
  rw [← hy] at HA ⊢
  clear hy
  generalize w1.heap.size = z at *
  go_loopw [11] (fun i wr => ∃ k : Nat, k ≤ 2 ∧ i = .int .i64 (k : Int) ∧ Hid (Kp [] W wr)) (fun i _ => 2 - (intOf i).toNat)
  case atStart => exact ⟨0, by omega, rfl, Kp.refl _ _⟩
  case round =>
    obtain ⟨k, hk, rfl, hK⟩ := hrel
    by_cases hlt : k < 2
    · have A1 := hK.out.blk HA.out (by simp)
      have Z1 := hK.out.blk HZ.out (by simp)
      have ex : ∃ p, wr.cell? ⟨y, k, none⟩ = some (.pointer p) ∧ bad wr p := by
        rcases (show k = 0 ∨ k = 1 by omega) with rfl | rfl
        · exact ⟨none, by simp [cell_of_blk A1], .inl rfl⟩
        · exact ⟨some ⟨z, 0, none⟩, by simp [cell_of_blk A1], .inr ⟨z, rfl, by simp [cell_of_blk Z1]⟩⟩
      obtain ⟨p, c0, bd0⟩ := ex
      have dk : decide ((k : Int) < 2) = true := by simp; omega
      have dk' : decide (k < 2) = true := by simp; omega
      have ww : IntKind.i64.wrap ((k : Int) + 1) = ((k + 1 : Nat) : Int) := by rw [IntKind.wrap_i64]; omega
      have i1 : (k : Int) < 2 := by omega
      have HLT := hide hlt
      have bd := hide bd0
      have Q := hide (quantile_f p wr bd.out 1 2)
      clear A1 Z1 bd0 hlt hk
      go_wp2_with fail
      refine Q.out.mono ?_
      rintro e w3 ⟨rfl, k3⟩
      have K3 := hide (hK.out.trans0 k3)
      have bd3 := hide (bd.out.keep k3)
      obtain ⟨g, c, hvC⟩ := M1.out.C_at
      have M3 := hide (MW.out.keep K3.out (by simp))
      have c3 : w3.cell? ⟨bg, 1, none⟩ = some (.slice (some ⟨g, 0, none⟩) (1 + 1) c) := by rw [← hvC]; exact M3.out.c.2
      have MG := hide (merge_g p w3 bd3.out c3)
      have BU := hide (bucket_n p w3 bd3.out a0)
      clear k3 Q bd c0 c3 hvC M3
      go_wp2_with fail
      refine (coarse_f _ _ bd3.out _).mono ?_
      rintro e w' ⟨rfl, rfl⟩
      go_wp2_with fail
      refine (add_f _ _ bd3.out _ _).mono ?_
      rintro e w' ⟨rfl, rfl⟩
      go_wp2_with fail
      refine (merge_f _ _ bd3.out _).mono ?_
      rintro e w' ⟨rfl, rfl⟩
      go_wp2_with fail
      refine MG.out.mono ?_
      rintro e w' ⟨rfl, rfl⟩
      go_wp2_with fail
      refine BU.out.mono ?_
      rintro e w4 ⟨rfl, k4⟩
      have K4 := hide (K3.out.trans0 k4)
      have bd4 := hide (bd3.out.keep k4)
      clear k4 BU MG bd3 K3
      go_wp2_with fail
      refine (counts_f _ _ bd4.out).mono ?_
      rintro e w' ⟨rfl, rfl⟩
      go_wp2_with fail
      refine (bounds_f _ _ bd4.out).mono ?_
      rintro e w' ⟨rfl, rfl⟩
      go_wp2_with fail
      refine (total_f _ _ bd4.out).mono ?_
      rintro e w' ⟨rfl, rfl⟩
      go_wp2_with fail
      refine (copy_f _ _ bd4.out).mono ?_
      rintro e w' ⟨rfl, rfl⟩
      go_wp2_with fail
      go_roundw
      case rel => exact ⟨k + 1, by have := HLT.out; omega, by first | rfl | go_num, K4⟩
      case measure => have := HLT.out; simp [intOf]; omega
    · obtain rfl : k = 2 := by omega
      go_wp2_with fail
      refine (works _).mono ?_
      rintro e w2 ⟨rfl, bw⟩
      have HW := hide bw
      clear bw
      go_wp2_with fail
      go_ret
      have KK := (K1.out.trans0 KW.out).trans0 hK.out
      exact ⟨rfl, (KK.below (by simp) (Nat.le_refl _)).trans (HW.out.mono KK.size)⟩
theorem own : ownKnob Try.prog.godebug = none := by kernel_rfl
theorem laidOut : laidOutB Try.prog = true := by kernel_rfl
set_option maxRecDepth 100000 in
theorem lifted (os : Os) (started : os.Started) (H : Type) (enc : TypeId × Value → H) :
    ReturnsInHanded {} Try.checked os 8 .any (Rows.histoNilSpec.pre6 enc Try.prog Try.f8 Rows.histoNilRow.domain false) (Rows.histoNilSpec.post enc Try.prog Try.f8 false true false false) := by
  refine returnsInHanded_of_change (C := Try.checked) own started (by kernel_rfl) Try.func8
    (ChangeSpec.witness6 (enc := enc) (C := Try.checked) false ⟨#[], #[.int .i64 0, .int .i64 0, .int .i64 0], []⟩ 8 (by kernel_rfl) (by kernel_rfl) (by kernel_rfl) (by kernel_rfl)) ?_
  intro W base args ds gs before hval0 hW hcnd _
  have hval : ∀ (j : Nat) t v, Try.f8.params[j]? = some t → args[j]? = some v → Value.okWide Try.prog W .any base t v := hval0
  have hW' := hW
  obtain ⟨p, q, hA0, hV, rfl, hfz, hnd⟩ := hW
  have hA : DataW.TrodAll enc Try.prog W 0 (fun _ => true) true Try.f8.params.toList args.toList ds p := hA0
  rw [Try.params8] at hA hval
  obtain ⟨v0, vs0, d0, ds0, p0, q0, hargs, rfl, rfl, h0, r0⟩ := trodAll_cons hA
  obtain ⟨v1, vs1, d1, ds1, p1, q1, rfl, rfl, rfl, h1, r1⟩ := trodAll_cons r0
  obtain ⟨v2, vs2, d2, ds2, p2, q2, rfl, rfl, rfl, h2, r2⟩ := trodAll_cons r1
  obtain ⟨rfl, rfl, rfl⟩ := trodAll_nil r2
  obtain rfl : args = #[v0, v1, v2] := by cases args; simp_all
  obtain ⟨rfl, rfl⟩ := trodVars_none hV
  have k0 := h0
  have lt0 : ∀ x ∈ p0, x.block < W.heap.size := by obtain ⟨m, hm⟩ := k0; exact DataW.trod_lt m _ _ _ hm
  have k1 := h1
  have lt1 : ∀ x ∈ p1, x.block < W.heap.size := by obtain ⟨m, hm⟩ := k1; exact DataW.trod_lt m _ _ _ hm
  have k2 := h2
  have lt2 : ∀ x ∈ p2, x.block < W.heap.size := by obtain ⟨m, hm⟩ := k2; exact DataW.trod_lt m _ _ _ hm
  obtain ⟨a0, rfl, _, _, w0⟩ := open_int Try.underlying2 (hval 0 2 v0 rfl rfl) h0
  obtain ⟨a1, rfl, _, _, w1⟩ := open_int Try.underlying2 (hval 1 2 v1 rfl rfl) h1
  obtain ⟨a2, rfl, _, _, w2⟩ := open_int Try.underlying3 (hval 2 3 v2 rfl rfl) h2
  clear hA0 hval0
  refine (walk a0 a1 a2 W (bounds_i64 w0) (bounds_i64 w1) (bounds_i64 w2)).mono fun e W' ⟨he, bel⟩ => ?_
  subst he
  exact ⟨_, rfl, _, _, _, [], _, [], hW', trodAll_mk1 (shut_bool Try.underlying4 _), (trodAll_cons_mk (Below.trod laidOut (by kernel_rfl) (of_decide_eq_true (by kernel_rfl)) k0 bel lt0) (trodAll_cons_mk (Below.trod laidOut (by kernel_rfl) (of_decide_eq_true (by kernel_rfl)) k1 bel lt1) (trodAll_cons_mk (Below.trod laidOut (by kernel_rfl) (of_decide_eq_true (by kernel_rfl)) k2 bel lt2) trodAll_mk0))), rfl, bel.frame _, fun h => by cases h⟩
theorem holds : Rows.histoNilRow.holds Try.pinned (OpenSpec.ofChange Rows.histoNilSpec) :=
  OpenClaim.holds_of_wide 8 Try.f8 rfl rfl rfl rfl rfl rfl rfl ⟨rfl, rfl, rfl, rfl, rfl⟩ rfl rfl rfl rfl rfl (by kernel_rfl) Try.func8 (by kernel_rfl)
    (of_decide_eq_true (by kernel_rfl)) (by unfold Func.isWrapper; first | (rw [if_pos (by decide +kernel)]; kernel_rfl) | (rw [if_neg (by decide +kernel)]; exact ⟨rfl, rfl⟩))
    (fun os started H enc _ => lifted os started H enc)
theorem proved : Rows.HistoNilSaid := holds
end lawNil
end Go.Proofs.Ytenoalfjobghnaa
