/- DsuNil: the law answers true at every two numbers: sets that are nil or zero. No condition. -/
import Derived.Test.YtpidkfkjfcjniaaE
import Derived.Test.YtpidkfkjfcjniaaOp
import Derived.Test.YtpidkfkjfcjniaaRows
import Derived.Deep.CutRange
set_option linter.unusedVariables false
set_option linter.unusedSimpArgs false
namespace Go.Proofs.Ytpidkfkjfcjniaa
open Go.RowKit
theorem build44z (w : World) : (Instr.build 44 #[]).run Try.prog w = .ok (.agg #[.bool false, .int .i64 0, .slice none 0 0, .slice none 0 0]) w := by kernel_rfl
theorem mk45 (a : Addr) (w : World) : (Instr.buildSlice 45 2 #[(0, .pointer none), (1, .pointer (some a))]).run Try.prog w = .ok (.slice (some ⟨w.heap.size, 0, none⟩) 2 2) (w.alloc (.cells #[.pointer none, .pointer (some a)] 22)) := by kernel_rfl
theorem wpList_m45 {w : World} {ops : Array Oper} {rest : List Oper} {o : Oper} {a : Act} {Q : Exit → Act → World → Prop} (hgd : o.guard = none) (x y : Operand) (ho : o.op = .buildSlice 45 2 #[(0, x), (1, y)]) (ad : Addr) (hx : a.eval x = .pointer none) (hy : a.eval y = .pointer (some ad))
    (h : wpList Try.prog ops Q rest (a.put o.dst (.slice (some ⟨w.heap.size, 0, none⟩) 2 2)) (w.alloc (.cells #[.pointer none, .pointer (some ad)] 22))) : wpList Try.prog ops Q (o :: rest) a w := by
  refine wpList_plain hgd fun K hK => ?_
  have hr := mk45 ad w
  unfold Oper.wp
  simp only [execOp, ho]
  simp [hx, hy, hr, Result.andThen, Sem.run_bind]
  exact hK _ _ h
theorem heap_size_alloc1 (w : World) {o : Obj} : (w.alloc o).heap.size = w.heap.size + 1 := by simp
namespace lawNil
open Go.ChangeShapes Go.WideShapes Go.ChangeAt Go.RowKit Go.Joins
set_option maxRecDepth 100000 in
set_option maxHeartbeats 8000000 in
theorem walk (a0 a1 : Int) (w : World) (b0 : -9223372036854775808 ≤ a0 ∧ a0 ≤ 9223372036854775807) (b1 : -9223372036854775808 ≤ a1 ∧ a1 ≤ 9223372036854775807) : Calls Try.prog 5 #[.int .i64 a0, .int .i64 a1] w fun e w' => e = .returned (.bool true) ∧ Below w.heap.size w w' := by
  have hb := build44z w
  clear b0 b1
  go_enter Try.func5, Try.ntmps5
  go_wp2_with (refine wpList_m45 rfl _ _ rfl _ rfl rfl ?_)
  have bel : Below w.heap.size w ((w.alloc (.cells #[.bool false, .int .i64 0, .slice none 0 0, .slice none 0 0] 44)).alloc (.cells #[.pointer none, .pointer (some ⟨w.heap.size, 0, none⟩)] 22)) := ((Below.refl _ _).alloc (Nat.le_refl _) _).alloc (by simp) _
  have c0 : ((w.alloc (.cells #[.bool false, .int .i64 0, .slice none 0 0, .slice none 0 0] 44)).alloc (.cells #[.pointer none, .pointer (some ⟨w.heap.size, 0, none⟩)] 22)).cell? ⟨w.heap.size + 1, 0, none⟩ = some (.pointer none) := by
    rw [← heap_size_alloc1 w, World.cell?_alloc_new]; rfl
  have c1 : ((w.alloc (.cells #[.bool false, .int .i64 0, .slice none 0 0, .slice none 0 0] 44)).alloc (.cells #[.pointer none, .pointer (some ⟨w.heap.size, 0, none⟩)] 22)).cell? ⟨w.heap.size + 1, 1, none⟩ = some (.pointer (some ⟨w.heap.size, 0, none⟩)) := by
    rw [← heap_size_alloc1 w, World.cell?_alloc_new]; rfl
  have cz : ((w.alloc (.cells #[.bool false, .int .i64 0, .slice none 0 0, .slice none 0 0] 44)).alloc (.cells #[.pointer none, .pointer (some ⟨w.heap.size, 0, none⟩)] 22)).cell? ⟨w.heap.size, 0, none⟩ = some (.bool false) := by simp [go_sem]
  generalize ((w.alloc (.cells #[.bool false, .int .i64 0, .slice none 0 0, .slice none 0 0] 44)).alloc (.cells #[.pointer none, .pointer (some ⟨w.heap.size, 0, none⟩)] 22)) = W at *
  have HB := hide bel
  have HZ := hide cz
  clear bel hb cz
  go_loop [7] (fun i => ∃ k : Nat, k ≤ 2 ∧ i = .int .i64 (k : Int)) (fun i => 2 - (intOf i).toNat)
  case atStart => exact ⟨0, by omega, rfl⟩
  case round =>
    obtain ⟨k, hk, rfl⟩ := hrel
    have hp := upPtr
    rcases (show k = 2 ∨ k = 0 ∨ k = 1 by omega) with rfl | rfl | rfl
    · go_wp2_with fail
      refine (works _).mono ?_
      rintro e w2 ⟨rfl, bw⟩
      have HW := hide bw
      clear bw
      go_wp2_with fail
      go_ret
      exact ⟨rfl, HB.out.trans (HW.out.mono (by have := HB.out.size; omega))⟩
    · have bd := hide (show bad W none from .inl rfl)
      go_wp2_with (first | (go_at_call 21; refine (union_f _ _ bd.out _ _).mono ?_; rintro e w' ⟨rfl, rfl⟩) | (go_at_call 23; refine (least_f _ _ bd.out _).mono ?_; rintro e w' ⟨rfl, rfl⟩) | (go_at_call 24; refine (same_f _ _ bd.out _ _).mono ?_; rintro e w' ⟨rfl, rfl⟩) | (go_at_call 14; refine (size_f _ _ bd.out _).mono ?_; rintro e w' ⟨rfl, rfl⟩) | (go_at_call 13; refine (count_f _ _ bd.out).mono ?_; rintro e w' ⟨rfl, rfl⟩) | (go_at_call 12; refine (len_f _ _ bd.out).mono ?_; rintro e w' ⟨rfl, rfl⟩) | (go_at_call 25; refine (labels_f _ _ bd.out).mono ?_; rintro e w' ⟨rfl, rfl⟩) | (go_at_call 19; refine (groups_f _ _ bd.out).mono ?_; rintro e w' ⟨rfl, rfl⟩) | (go_at_call 26; refine (copy_f _ _ bd.out).mono ?_; rintro e w' ⟨rfl, rfl⟩))
      go_round
      case rel => exact ⟨1, by omega, rfl⟩
      case measure => simp [intOf]
    · have bd := hide (show bad W (some ⟨w.heap.size, 0, none⟩) from .inr ⟨_, rfl, HZ.out⟩)
      go_wp2_with (first | (go_at_call 21; refine (union_f _ _ bd.out _ _).mono ?_; rintro e w' ⟨rfl, rfl⟩) | (go_at_call 23; refine (least_f _ _ bd.out _).mono ?_; rintro e w' ⟨rfl, rfl⟩) | (go_at_call 24; refine (same_f _ _ bd.out _ _).mono ?_; rintro e w' ⟨rfl, rfl⟩) | (go_at_call 14; refine (size_f _ _ bd.out _).mono ?_; rintro e w' ⟨rfl, rfl⟩) | (go_at_call 13; refine (count_f _ _ bd.out).mono ?_; rintro e w' ⟨rfl, rfl⟩) | (go_at_call 12; refine (len_f _ _ bd.out).mono ?_; rintro e w' ⟨rfl, rfl⟩) | (go_at_call 25; refine (labels_f _ _ bd.out).mono ?_; rintro e w' ⟨rfl, rfl⟩) | (go_at_call 19; refine (groups_f _ _ bd.out).mono ?_; rintro e w' ⟨rfl, rfl⟩) | (go_at_call 26; refine (copy_f _ _ bd.out).mono ?_; rintro e w' ⟨rfl, rfl⟩))
      go_round
      case rel => exact ⟨2, by omega, rfl⟩
      case measure => simp [intOf]
theorem own : ownKnob Try.prog.godebug = none := by kernel_rfl
theorem laidOut : laidOutB Try.prog = true := by kernel_rfl
set_option maxRecDepth 100000 in
theorem lifted (os : Os) (started : os.Started) (H : Type) (enc : TypeId × Value → H) :
    ReturnsInHanded {} Try.checked os 5 .any (Rows.dsuNilSpec.pre6 enc Try.prog Try.f5 Rows.dsuNilRow.domain false) (Rows.dsuNilSpec.post enc Try.prog Try.f5 false true false false) := by
  refine returnsInHanded_of_change (C := Try.checked) own started (by kernel_rfl) Try.func5
    (ChangeSpec.witness6 (enc := enc) (C := Try.checked) false ⟨#[], #[.int .i64 0, .int .i64 0], []⟩ 8 (by kernel_rfl) (by kernel_rfl) (by kernel_rfl) (by kernel_rfl)) ?_
  intro W base args ds gs before hval0 hW hcnd _
  have hval : ∀ (j : Nat) t v, Try.f5.params[j]? = some t → args[j]? = some v → Value.okWide Try.prog W .any base t v := hval0
  have hW' := hW
  obtain ⟨p, q, hA0, hV, rfl, hfz, hnd⟩ := hW
  have hA : DataW.TrodAll enc Try.prog W 0 (fun _ => true) true Try.f5.params.toList args.toList ds p := hA0
  rw [Try.params5] at hA hval
  obtain ⟨v0, vs0, d0, ds0, p0, q0, hargs, rfl, rfl, h0, r0⟩ := trodAll_cons hA
  obtain ⟨v1, vs1, d1, ds1, p1, q1, rfl, rfl, rfl, h1, r1⟩ := trodAll_cons r0
  obtain ⟨rfl, rfl, rfl⟩ := trodAll_nil r1
  obtain rfl : args = #[v0, v1] := by cases args; simp_all
  obtain ⟨rfl, rfl⟩ := trodVars_none hV
  have k0 := h0
  have lt0 : ∀ x ∈ p0, x.block < W.heap.size := by obtain ⟨m, hm⟩ := k0; exact DataW.trod_lt m _ _ _ hm
  have k1 := h1
  have lt1 : ∀ x ∈ p1, x.block < W.heap.size := by obtain ⟨m, hm⟩ := k1; exact DataW.trod_lt m _ _ _ hm
  obtain ⟨a0, rfl, _, _, w0⟩ := open_int Try.underlying3 (hval 0 3 v0 rfl rfl) h0
  obtain ⟨a1, rfl, _, _, w1⟩ := open_int Try.underlying3 (hval 1 3 v1 rfl rfl) h1
  clear hA0 hval0
  refine (walk a0 a1 W (bounds_i64 w0) (bounds_i64 w1)).mono fun e W' ⟨he, bel⟩ => ?_
  subst he
  exact ⟨_, rfl, _, _, _, [], _, [], hW', trodAll_mk1 (shut_bool Try.underlying4 _), (trodAll_cons_mk (Below.trod laidOut (by kernel_rfl) (of_decide_eq_true (by kernel_rfl)) k0 bel lt0) (trodAll_cons_mk (Below.trod laidOut (by kernel_rfl) (of_decide_eq_true (by kernel_rfl)) k1 bel lt1) trodAll_mk0)), rfl, bel.frame _, fun h => by cases h⟩
theorem holds : Rows.dsuNilRow.holds Try.pinned (OpenSpec.ofChange Rows.dsuNilSpec) :=
  OpenClaim.holds_of_wide 5 Try.f5 rfl rfl rfl rfl rfl rfl rfl ⟨rfl, rfl, rfl, rfl, rfl⟩ rfl rfl rfl rfl rfl (by kernel_rfl) Try.func5 (by kernel_rfl)
    (of_decide_eq_true (by kernel_rfl)) (by unfold Func.isWrapper; first | (rw [if_pos (by decide +kernel)]; kernel_rfl) | (rw [if_neg (by decide +kernel)]; exact ⟨rfl, rfl⟩))
    (fun os started H enc _ => lifted os started H enc)
theorem proved : Rows.DsuNilSaid := holds
end lawNil
end Go.Proofs.Ytpidkfkjfcjniaa
