/- UndoNil holds: sets that are nil, or that New did not make, return ErrNil and zero values. -/
import Derived.Test.YtfjmnidenoojhaaAd
import Derived.Test.YtfjmnidenoojhaaOp
import Derived.Test.YtfjmnidenoojhaaRows
import Derived.Deep.CutRange
set_option linter.unusedVariables false
set_option linter.unusedSimpArgs false
namespace Go.Proofs.Ytfjmnidenoojhaa
open Go.RowKit
theorem buildz (w : World) : (Instr.build 60 #[]).run Try.prog w = .ok (.agg #[.bool false, .slice none 0 0, .slice none 0 0, .slice none 0 0]) w := by kernel_rfl
theorem mks (a : Addr) (w : World) : (Instr.buildSlice 61 2 #[(0, .pointer none), (1, .pointer (some a))]).run Try.prog w = .ok (.slice (some ⟨w.heap.size, 0, none⟩) 2 2) (w.alloc (.cells #[.pointer none, .pointer (some a)] 23)) := by kernel_rfl
theorem wpList_ms {w : World} {ops : Array Oper} {rest : List Oper} {o : Oper} {a : Act} {Q : Exit → Act → World → Prop} (hgd : o.guard = none) (x y : Operand) (ho : o.op = .buildSlice 61 2 #[(0, x), (1, y)]) (ad : Addr) (hx : a.eval x = .pointer none) (hy : a.eval y = .pointer (some ad))
    (h : wpList Try.prog ops Q rest (a.put o.dst (.slice (some ⟨w.heap.size, 0, none⟩) 2 2)) (w.alloc (.cells #[.pointer none, .pointer (some ad)] 23))) : wpList Try.prog ops Q (o :: rest) a w := by
  refine wpList_plain hgd fun K hK => ?_
  have hr := mks ad w
  unfold Oper.wp
  simp only [execOp, ho]
  simp [hx, hy, hr, Result.andThen, Sem.run_bind]
  exact hK _ _ h
theorem heap_size_alloc1 (w : World) {o : Obj} : (w.alloc o).heap.size = w.heap.size + 1 := by simp
theorem bad.keep {w w' : World} {p : Option Addr} (h : bad w p) (k : Kp [] w w') : bad w' p := by
  rcases h with rfl | ⟨b, rfl, hc⟩
  · exact .inl rfl
  · refine .inr ⟨b, rfl, ?_⟩
    have hlt : b < w.heap.size := by
      apply Classical.byContradiction
      intro hn
      simp [World.cell?, Array.getElem?_eq_none (by omega : w.heap.size ≤ b)] at hc
    rw [World.cell?_of_block (w := w) (k.block b hlt (by simp))]
    exact hc
namespace lawNil
open Go.ChangeShapes Go.WideShapes Go.ChangeAt Go.RowKit Go.Joins
set_option maxRecDepth 100000 in
set_option maxHeartbeats 8000000 in
theorem walk (a0 a1 : Int) (s2 : Option Addr) (len2 cap2 : Nat) (V2 : Nat → Nat → Int) (w : World) (b0 : -9223372036854775808 ≤ a0 ∧ a0 ≤ 9223372036854775807) (b1 : -9223372036854775808 ≤ a1 ∧ a1 ≤ 9223372036854775807) (hc2 : len2 ≤ cap2 ∧ cap2 ≤ maxLen) (hr2 : RowsI w s2 [.i64, .i64] len2 V2) : Calls Try.prog 9 #[.int .i64 a0, .int .i64 a1, .slice s2 len2 cap2] w fun e w' => e = .returned (.bool true) ∧ Below w.heap.size w w' := by
  have hb := buildz w
  clear b0 b1 hc2 hr2
  go_enter Try.func9, Try.ntmps9
  go_wp2_with (refine wpList_ms rfl _ _ rfl _ rfl rfl ?_)
  obtain ⟨W, hW⟩ : ∃ W, W = ((w.alloc (.cells #[.bool false, .slice none 0 0, .slice none 0 0, .slice none 0 0] 60)).alloc (.cells #[.pointer none, .pointer (some ⟨w.heap.size, 0, none⟩)] 23)) := ⟨_, rfl⟩
  have HK : Hid (Kp [] w W) := by rw [hW]; exact (Kp.alloc (o := []) _ _).trans (Kp.alloc (o := []) _ _) (by simp)
  have HA : Hid (W.heap[w.heap.size + 1]? = some (.cells #[.pointer none, .pointer (some ⟨w.heap.size, 0, none⟩)] 23 (0, 0))) := by
    rw [hW]
    have := heap_alloc_new (w.alloc (.cells #[.bool false, .slice none 0 0, .slice none 0 0, .slice none 0 0] 60)) (.cells #[.pointer none, .pointer (some ⟨w.heap.size, 0, none⟩)] 23)
    rw [heap_size_alloc1] at this
    exact this
  have HZ : Hid (W.heap[w.heap.size]? = some (.cells #[.bool false, .slice none 0 0, .slice none 0 0, .slice none 0 0] 60 (0, 0))) := by
    rw [hW]; exact (Kp.alloc (o := []) _ _).blk (heap_alloc_new _ _) (by simp)
  rw [← hW]
  clear hW hb
  go_loopw [9] (fun i wr => ∃ k : Nat, k ≤ 2 ∧ i = .int .i64 (k : Int) ∧ Hid (Kp [] W wr)) (fun i _ => 2 - (intOf i).toNat)
  case atStart => exact ⟨0, by omega, rfl, Kp.refl _ _⟩
  case round =>
    obtain ⟨k, hk, rfl, hK⟩ := hrel
    have hp := upPtr
    have A1 := hK.out.blk HA.out (by simp)
    have Z1 := hide (hK.out.blk HZ.out (by simp))
    have c0 : wr.cell? ⟨w.heap.size + 1, 0, none⟩ = some (.pointer none) := by simp [cell_of_blk A1]
    have c1 : wr.cell? ⟨w.heap.size + 1, 1, none⟩ = some (.pointer (some ⟨w.heap.size, 0, none⟩)) := by simp [cell_of_blk A1]
    clear A1
    rcases (show k = 2 ∨ k = 0 ∨ k = 1 by omega) with rfl | rfl | rfl
    · go_wp2_with fail
      refine (works _).mono ?_
      rintro e w2 ⟨rfl, bw⟩
      have HW := hide bw
      clear bw
      go_wp2_with fail
      go_ret
      exact ⟨rfl, (below_kp (HK.out.trans hK.out (by simp))).trans (HW.out.mono (HK.out.trans hK.out (by simp)).size)⟩
    · have bd := hide (show bad wr none from .inl rfl)
      have T := hide (trial_f none wr bd.out (.slice s2 len2 cap2))
      have bz := fun W => build40z W
      clear Z1
      go_wp2_with fail
      refine (union_f _ _ bd.out _ _).mono ?_
      rintro e w' ⟨rfl, rfl⟩
      go_wp2_with fail
      refine T.out.mono ?_
      unfold rowZ
      rintro e w3 ⟨rfl, k3⟩
      have K3 := hide (hK.out.trans k3 (by simp))
      have K4 := hide (K3.out.trans (Kp.alloc (o := []) w3 (.cells #[.int .i64 0, .int .i64 0, .int .i64 0] 40)) (by simp))
      have bd2 := hide ((bd.out.keep k3).keep (Kp.alloc (o := []) w3 (.cells #[.int .i64 0, .int .i64 0, .int .i64 0] 40)))
      clear k3 T bd
      go_wp2_with fail
      refine (undo_f _ _ bd2.out _).mono ?_
      rintro e w' ⟨rfl, rfl⟩
      go_wp2_with fail
      refine (same_f _ _ bd2.out _ _).mono ?_
      rintro e w' ⟨rfl, rfl⟩
      go_wp2_with fail
      refine (size_f _ _ bd2.out _).mono ?_
      rintro e w' ⟨rfl, rfl⟩
      go_wp2_with fail
      refine (count_f _ _ bd2.out).mono ?_
      rintro e w' ⟨rfl, rfl⟩
      go_wp2_with fail
      refine (mark_f _ _ bd2.out).mono ?_
      rintro e w' ⟨rfl, rfl⟩
      go_wp2_with fail
      refine (labels_f _ _ bd2.out).mono ?_
      rintro e w' ⟨rfl, rfl⟩
      go_wp2_with fail
      refine (copy_f _ _ bd2.out).mono ?_
      rintro e w' ⟨rfl, rfl⟩
      go_wp2_with fail
      go_roundw
      case rel => exact ⟨1, by omega, rfl, K4⟩
      case measure => simp [intOf]
    · have bd := hide (show bad wr (some ⟨w.heap.size, 0, none⟩) from .inr ⟨_, rfl, by simp [cell_of_blk Z1.out]⟩)
      have T := hide (trial_f (some ⟨w.heap.size, 0, none⟩) wr bd.out (.slice s2 len2 cap2))
      have bz := fun W => build40z W
      clear Z1
      go_wp2_with fail
      refine (union_f _ _ bd.out _ _).mono ?_
      rintro e w' ⟨rfl, rfl⟩
      go_wp2_with fail
      refine T.out.mono ?_
      unfold rowZ
      rintro e w3 ⟨rfl, k3⟩
      have K3 := hide (hK.out.trans k3 (by simp))
      have K4 := hide (K3.out.trans (Kp.alloc (o := []) w3 (.cells #[.int .i64 0, .int .i64 0, .int .i64 0] 40)) (by simp))
      have bd2 := hide ((bd.out.keep k3).keep (Kp.alloc (o := []) w3 (.cells #[.int .i64 0, .int .i64 0, .int .i64 0] 40)))
      clear k3 T bd
      go_wp2_with fail
      refine (undo_f _ _ bd2.out _).mono ?_
      rintro e w' ⟨rfl, rfl⟩
      go_wp2_with fail
      refine (same_f _ _ bd2.out _ _).mono ?_
      rintro e w' ⟨rfl, rfl⟩
      go_wp2_with fail
      refine (size_f _ _ bd2.out _).mono ?_
      rintro e w' ⟨rfl, rfl⟩
      go_wp2_with fail
      refine (count_f _ _ bd2.out).mono ?_
      rintro e w' ⟨rfl, rfl⟩
      go_wp2_with fail
      refine (mark_f _ _ bd2.out).mono ?_
      rintro e w' ⟨rfl, rfl⟩
      go_wp2_with fail
      refine (labels_f _ _ bd2.out).mono ?_
      rintro e w' ⟨rfl, rfl⟩
      go_wp2_with fail
      refine (copy_f _ _ bd2.out).mono ?_
      rintro e w' ⟨rfl, rfl⟩
      go_wp2_with fail
      go_roundw
      case rel => exact ⟨2, by omega, rfl, K4⟩
      case measure => simp [intOf]
theorem own : ownKnob Try.prog.godebug = none := by kernel_rfl
theorem laidOut : laidOutB Try.prog = true := by kernel_rfl
set_option maxRecDepth 100000 in
theorem lifted (os : Os) (started : os.Started) (H : Type) (enc : TypeId × Value → H) :
    ReturnsInHanded {} Try.checked os 9 .any (Rows.undoNilSpec.pre6 enc Try.prog Try.f9 Rows.undoNilRow.domain false) (Rows.undoNilSpec.post enc Try.prog Try.f9 false true false false) := by
  refine returnsInHanded_of_change (C := Try.checked) own started (by kernel_rfl) Try.func9
    (ChangeSpec.witness6 (enc := enc) (C := Try.checked) false ⟨#[], #[.int .i64 0, .int .i64 0, .slice none 0 0], []⟩ 8 (by kernel_rfl) (by kernel_rfl) (by kernel_rfl) (by kernel_rfl)) ?_
  intro W base args ds gs before hval0 hW hcnd _
  have hval : ∀ (j : Nat) t v, Try.f9.params[j]? = some t → args[j]? = some v → Value.okWide Try.prog W .any base t v := hval0
  have hW' := hW
  obtain ⟨p, q, hA0, hV, rfl, hfz, hnd⟩ := hW
  have hA : DataW.TrodAll enc Try.prog W 0 (fun _ => true) true Try.f9.params.toList args.toList ds p := hA0
  rw [Try.params9] at hA hval
  obtain ⟨v0, vs0, d0, ds0, p0, q0, hargs, rfl, rfl, h0, r0⟩ := trodAll_cons hA
  obtain ⟨v1, vs1, d1, ds1, p1, q1, rfl, rfl, rfl, h1, r1⟩ := trodAll_cons r0
  obtain ⟨v2, vs2, d2, ds2, p2, q2, rfl, rfl, rfl, h2, r2⟩ := trodAll_cons r1
  obtain ⟨rfl, rfl, rfl⟩ := trodAll_nil r2
  obtain rfl : args = #[v0, v1, v2] := by cases args; simp_all
  obtain ⟨rfl, rfl⟩ := trodVars_none hV
  have k0 := h0
  have lt0 : ∀ x ∈ p0, x.block < W.heap.size := by obtain ⟨m, hm⟩ := k0; exact DataW.trod_lt m _ _ _ hm
  have k1 := h1
  have lt1 : ∀ x ∈ p1, x.block < W.heap.size := by obtain ⟨m, hm⟩ := k1; exact DataW.trod_lt m _ _ _ hm
  have k2 := h2
  have lt2 : ∀ x ∈ p2, x.block < W.heap.size := by obtain ⟨m, hm⟩ := k2; exact DataW.trod_lt m _ _ _ hm
  obtain ⟨a0, rfl, _, _, w0⟩ := open_int Try.underlying3 (hval 0 3 v0 rfl rfl) h0
  obtain ⟨a1, rfl, _, _, w1⟩ := open_int Try.underlying3 (hval 1 3 v1 rfl rfl) h1
  obtain ⟨s2, len2, cap2, rfl⟩ := okWide_slice Try.underlying33 (hval 2 33 v2 rfl rfl)
  obtain ⟨V2, hc2, hr2⟩ := rows_in Try.underlying33 (flat_array Try.underlying58 Try.underlying3 (by kernel_rfl) (by kernel_rfl) : FlatI Try.prog 58 [.i64, .i64]) (by decide) h2
  clear hA0 hval0
  refine (walk a0 a1 s2 len2 cap2 V2 W (bounds_i64 w0) (bounds_i64 w1) hc2 hr2).mono fun e W' ⟨he, bel⟩ => ?_
  subst he
  exact ⟨_, rfl, _, _, _, [], _, [], hW', trodAll_mk1 (shut_bool Try.underlying4 _), (trodAll_cons_mk (Below.trod laidOut (by kernel_rfl) (of_decide_eq_true (by kernel_rfl)) k0 bel lt0) (trodAll_cons_mk (Below.trod laidOut (by kernel_rfl) (of_decide_eq_true (by kernel_rfl)) k1 bel lt1) (trodAll_cons_mk (Below.trod laidOut (by kernel_rfl) (of_decide_eq_true (by kernel_rfl)) k2 bel lt2) trodAll_mk0))), rfl, bel.frame _, fun h => by cases h⟩
theorem holds : Rows.undoNilRow.holds Try.pinned (OpenSpec.ofChange Rows.undoNilSpec) :=
  OpenClaim.holds_of_wide 9 Try.f9 rfl rfl rfl rfl rfl rfl rfl ⟨rfl, rfl, rfl, rfl, rfl⟩ rfl rfl rfl rfl rfl (by kernel_rfl) Try.func9 (by kernel_rfl)
    (of_decide_eq_true (by kernel_rfl)) (by unfold Func.isWrapper; first | (rw [if_pos (by decide +kernel)]; kernel_rfl) | (rw [if_neg (by decide +kernel)]; exact ⟨rfl, rfl⟩))
    (fun os started H enc _ => lifted os started H enc)
theorem proved : Rows.UndoNilSaid := holds
end lawNil
end Go.Proofs.Ytfjmnidenoojhaa
