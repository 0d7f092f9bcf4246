/- ClockNil holds: clocks that are nil, or that New did not make, return ErrNil and zero values. -/
import Derived.Test.YtimjkkamfgafoaaC
import Derived.Test.YtimjkkamfgafoaaOp
import Derived.Test.YtimjkkamfgafoaaRows
import Derived.Deep.CutRange
set_option linter.unusedVariables false
set_option linter.unusedSimpArgs false
namespace Go.Proofs.Ytimjkkamfgafoaa
open Go.RowKit
theorem buildz (w : World) : (Instr.build 50 #[]).run Try.prog w = .ok (.agg #[.int .i64 0, .int .i64 0]) w := by kernel_rfl
theorem mks (a : Addr) (w : World) : (Instr.buildSlice 51 2 #[(0, .pointer none), (1, .pointer (some a))]).run Try.prog w = .ok (.slice (some ⟨w.heap.size, 0, none⟩) 2 2) (w.alloc (.cells #[.pointer none, .pointer (some a)] 22)) := by kernel_rfl
theorem wpList_ms {w : World} {ops : Array Oper} {rest : List Oper} {o : Oper} {a : Act} {Q : Exit → Act → World → Prop} (hgd : o.guard = none) (x y : Operand) (ho : o.op = .buildSlice 51 2 #[(0, x), (1, y)]) (ad : Addr) (hx : a.eval x = .pointer none) (hy : a.eval y = .pointer (some ad))
    (h : wpList Try.prog ops Q rest (a.put o.dst (.slice (some ⟨w.heap.size, 0, none⟩) 2 2)) (w.alloc (.cells #[.pointer none, .pointer (some ad)] 22))) : wpList Try.prog ops Q (o :: rest) a w := by
  refine wpList_plain hgd fun K hK => ?_
  have hr := mks ad w
  unfold Oper.wp
  simp only [execOp, ho]
  simp [hx, hy, hr, Result.andThen, Sem.run_bind]
  exact hK _ _ h
theorem heap_size_alloc1 (w : World) {o : Obj} : (w.alloc o).heap.size = w.heap.size + 1 := by simp
section
variable (p : Option Addr) (w : World) (h : bad w p)
include h
theorem expiry_f (x : Int) : Calls Try.prog 25 #[.pointer p, .int .i64 x] w fun e w' => e = .returned (.tuple #[.int .i64 0, .int .i64 1]) ∧ w = w' := by
  have v0 := valid_f p w h
  go_enter Try.func25, Try.ntmps25
  go_wp2_with (go_at_call 30; refine v0.mono ?_; rintro e w' ⟨rfl, rfl⟩)
  go_ret2
  exact ⟨rfl, rfl⟩
theorem check_f (x : Int) : Calls Try.prog 17 #[.pointer p, .int .i64 x] w fun e w' => e = .returned (.int .i64 1) ∧ w = w' := by
  have v0 := valid_f p w h
  go_enter Try.func17, Try.ntmps17
  go_wp2_with (go_at_call 30; refine v0.mono ?_; rintro e w' ⟨rfl, rfl⟩)
  go_ret
  exact ⟨rfl, rfl⟩
theorem advance_f (x : Int) : Calls Try.prog 15 #[.pointer p, .int .i64 x] w fun e w' => e = .returned (.int .i64 1) ∧ w = w' := by
  have v0 := check_f p w h x
  go_enter Try.func15, Try.ntmps15
  go_wp2_with (go_at_call 17; refine v0.mono ?_; rintro e w' ⟨rfl, rfl⟩)
  go_ret
  exact ⟨rfl, rfl⟩
theorem live_f (x : Int) : Calls Try.prog 26 #[.pointer p, .int .i64 x] w fun e w' => e = .returned (.bool false) ∧ w = w' := by
  have v0 := expiry_f p w h x
  go_enter Try.func26, Try.ntmps26
  go_wp2_with (go_at_call 25; refine v0.mono ?_; rintro e w' ⟨rfl, rfl⟩)
  go_ret
  exact ⟨rfl, rfl⟩
theorem now_f : Calls Try.prog 23 #[.pointer p] w fun e w' => e = .returned (.int .i64 0) ∧ w = w' := by
  have v0 := valid_f p w h
  go_enter Try.func23, Try.ntmps23
  go_wp2_with (go_at_call 30; refine v0.mono ?_; rintro e w' ⟨rfl, rfl⟩)
  go_ret
  exact ⟨rfl, rfl⟩
theorem window_f : Calls Try.prog 24 #[.pointer p] w fun e w' => e = .returned (.int .i64 0) ∧ w = w' := by
  have v0 := valid_f p w h
  go_enter Try.func24, Try.ntmps24
  go_wp2_with (go_at_call 30; refine v0.mono ?_; rintro e w' ⟨rfl, rfl⟩)
  go_ret
  exact ⟨rfl, rfl⟩
theorem copy_f : Calls Try.prog 19 #[.pointer p] w fun e w' => e = .returned (.pointer none) ∧ w = w' := by
  have v0 := valid_f p w h
  go_enter Try.func19, Try.ntmps19
  go_wp2_with (go_at_call 30; refine v0.mono ?_; rintro e w' ⟨rfl, rfl⟩)
  go_ret
  exact ⟨rfl, rfl⟩
end
namespace lawNil
open Go.ChangeShapes Go.WideShapes Go.ChangeAt Go.RowKit Go.Joins
set_option maxRecDepth 100000 in
set_option maxHeartbeats 8000000 in
theorem walk (a0 : Int) (w : World) (b0 : I64 a0) : Calls Try.prog 9 #[.int .i64 a0] w fun e w' => e = .returned (.bool true) ∧ Below w.heap.size w w' := by
  have hb := buildz w
  clear b0
  go_enter Try.func9, Try.ntmps9
  go_wp2_with (refine wpList_ms rfl _ _ rfl _ rfl rfl ?_)
  have bel : Below w.heap.size w ((w.alloc (.cells #[.int .i64 0, .int .i64 0] 50)).alloc (.cells #[.pointer none, .pointer (some ⟨w.heap.size, 0, none⟩)] 22)) := ((Below.refl _ _).alloc (Nat.le_refl _) _).alloc (by simp) _
  have c0 : ((w.alloc (.cells #[.int .i64 0, .int .i64 0] 50)).alloc (.cells #[.pointer none, .pointer (some ⟨w.heap.size, 0, none⟩)] 22)).cell? ⟨w.heap.size + 1, 0, none⟩ = some (.pointer none) := by
    rw [← heap_size_alloc1 w, World.cell?_alloc_new]; rfl
  have c1 : ((w.alloc (.cells #[.int .i64 0, .int .i64 0] 50)).alloc (.cells #[.pointer none, .pointer (some ⟨w.heap.size, 0, none⟩)] 22)).cell? ⟨w.heap.size + 1, 1, none⟩ = some (.pointer (some ⟨w.heap.size, 0, none⟩)) := by
    rw [← heap_size_alloc1 w, World.cell?_alloc_new]; rfl
  have cz : ((w.alloc (.cells #[.int .i64 0, .int .i64 0] 50)).alloc (.cells #[.pointer none, .pointer (some ⟨w.heap.size, 0, none⟩)] 22)).cell? ⟨w.heap.size, 0, none⟩ = some (.int .i64 0) := by simp [go_sem]
  generalize ((w.alloc (.cells #[.int .i64 0, .int .i64 0] 50)).alloc (.cells #[.pointer none, .pointer (some ⟨w.heap.size, 0, none⟩)] 22)) = W at *
  have HB := hide bel
  have HZ := hide cz
  clear bel hb cz
  go_loop [5] (fun i => ∃ k : Nat, k ≤ 2 ∧ i = .int .i64 (k : Int)) (fun i => 2 - (intOf i).toNat)
  case atStart => exact ⟨0, by omega, rfl⟩
  case round =>
    obtain ⟨k, hk, rfl⟩ := hrel
    have hp := upPtr
    rcases (show k = 2 ∨ k = 0 ∨ k = 1 by omega) with rfl | rfl | rfl
    · go_wp2_with fail
      refine (works _).mono ?_
      rintro e w2 ⟨rfl, bw⟩
      have HW := hide bw
      clear bw
      go_wp2_with fail
      go_ret
      exact ⟨rfl, HB.out.trans (HW.out.mono (by have := HB.out.size; omega))⟩
    · have bd := hide (show bad W none from .inl rfl)
      go_wp2_with (first | (go_at_call 25; refine (expiry_f _ _ bd.out _).mono ?_; rintro e w' ⟨rfl, rfl⟩) | (go_at_call 17; refine (check_f _ _ bd.out _).mono ?_; rintro e w' ⟨rfl, rfl⟩) | (go_at_call 15; refine (advance_f _ _ bd.out _).mono ?_; rintro e w' ⟨rfl, rfl⟩) | (go_at_call 26; refine (live_f _ _ bd.out _).mono ?_; rintro e w' ⟨rfl, rfl⟩) | (go_at_call 23; refine (now_f _ _ bd.out).mono ?_; rintro e w' ⟨rfl, rfl⟩) | (go_at_call 24; refine (window_f _ _ bd.out).mono ?_; rintro e w' ⟨rfl, rfl⟩) | (go_at_call 19; refine (copy_f _ _ bd.out).mono ?_; rintro e w' ⟨rfl, rfl⟩))
      go_round
      case rel => exact ⟨1, by omega, rfl⟩
      case measure => simp [intOf]
    · have bd := hide (show bad W (some ⟨w.heap.size, 0, none⟩) from .inr ⟨_, rfl, HZ.out⟩)
      go_wp2_with (first | (go_at_call 25; refine (expiry_f _ _ bd.out _).mono ?_; rintro e w' ⟨rfl, rfl⟩) | (go_at_call 17; refine (check_f _ _ bd.out _).mono ?_; rintro e w' ⟨rfl, rfl⟩) | (go_at_call 15; refine (advance_f _ _ bd.out _).mono ?_; rintro e w' ⟨rfl, rfl⟩) | (go_at_call 26; refine (live_f _ _ bd.out _).mono ?_; rintro e w' ⟨rfl, rfl⟩) | (go_at_call 23; refine (now_f _ _ bd.out).mono ?_; rintro e w' ⟨rfl, rfl⟩) | (go_at_call 24; refine (window_f _ _ bd.out).mono ?_; rintro e w' ⟨rfl, rfl⟩) | (go_at_call 19; refine (copy_f _ _ bd.out).mono ?_; rintro e w' ⟨rfl, rfl⟩))
      go_round
      case rel => exact ⟨2, by omega, rfl⟩
      case measure => simp [intOf]
theorem own : ownKnob Try.prog.godebug = none := by kernel_rfl
theorem laidOut : laidOutB Try.prog = true := by kernel_rfl
set_option maxRecDepth 100000 in
theorem lifted (os : Os) (started : os.Started) (H : Type) (enc : TypeId × Value → H) :
    ReturnsInHanded {} Try.checked os 9 .any (Rows.clockNilSpec.pre6 enc Try.prog Try.f9 Rows.clockNilRow.domain false) (Rows.clockNilSpec.post enc Try.prog Try.f9 false true false false) := by
  refine returnsInHanded_of_change (C := Try.checked) own started (by kernel_rfl) Try.func9
    (ChangeSpec.witness6 (enc := enc) (C := Try.checked) false ⟨#[], #[.int .i64 0], []⟩ 8 (by kernel_rfl) (by kernel_rfl) (by kernel_rfl) (by kernel_rfl)) ?_
  intro W base args ds gs before hval0 hW hcnd _
  have hval : ∀ (j : Nat) t v, Try.f9.params[j]? = some t → args[j]? = some v → Value.okWide Try.prog W .any base t v := hval0
  have hW' := hW
  obtain ⟨p, q, hA0, hV, rfl, hfz, hnd⟩ := hW
  have hA : DataW.TrodAll enc Try.prog W 0 (fun _ => true) true Try.f9.params.toList args.toList ds p := hA0
  rw [Try.params9] at hA hval
  obtain ⟨v0, vs0, d0, ds0, p0, q0, hargs, rfl, rfl, h0, r0⟩ := trodAll_cons hA
  obtain ⟨rfl, rfl, rfl⟩ := trodAll_nil r0
  obtain rfl : args = #[v0] := by cases args; simp_all
  obtain ⟨rfl, rfl⟩ := trodVars_none hV
  have k0 := h0
  have lt0 : ∀ x ∈ p0, x.block < W.heap.size := by obtain ⟨m, hm⟩ := k0; exact DataW.trod_lt m _ _ _ hm
  obtain ⟨a0, rfl, _, _, w0⟩ := open_int Try.underlying2 (hval 0 2 v0 rfl rfl) h0
  clear hA0 hval0
  refine (walk a0 W (bounds_i64 w0)).mono fun e W' ⟨he, bel⟩ => ?_
  subst he
  exact ⟨_, rfl, _, _, _, [], _, [], hW', trodAll_mk1 (shut_bool Try.underlying4 _), (trodAll_cons_mk (Below.trod laidOut (by kernel_rfl) (of_decide_eq_true (by kernel_rfl)) k0 bel lt0) trodAll_mk0), rfl, bel.frame _, fun h => by cases h⟩
theorem holds : Rows.clockNilRow.holds Try.pinned (OpenSpec.ofChange Rows.clockNilSpec) :=
  OpenClaim.holds_of_wide 9 Try.f9 rfl rfl rfl rfl rfl rfl rfl ⟨rfl, rfl, rfl, rfl, rfl⟩ rfl rfl rfl rfl rfl (by kernel_rfl) Try.func9 (by kernel_rfl)
    (of_decide_eq_true (by kernel_rfl)) (by unfold Func.isWrapper; first | (rw [if_pos (by decide +kernel)]; kernel_rfl) | (rw [if_neg (by decide +kernel)]; exact ⟨rfl, rfl⟩))
    (fun os started H enc _ => lifted os started H enc)
theorem proved : Rows.ClockNilSaid := holds
end lawNil
end Go.Proofs.Ytimjkkamfgafoaa
