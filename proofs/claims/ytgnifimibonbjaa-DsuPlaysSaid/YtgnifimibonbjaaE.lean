/- The small example; sets that are nil or were never made. -/
import Derived.Test.YtgnifimibonbjaaC
import Derived.Test.YtgnifimibonbjaaD
set_option linter.unusedVariables false
set_option linter.unusedSimpArgs false
namespace Go.Proofs.Ytgnifimibonbjaa
open Go.RowKit

set_option maxRecDepth 100000 in
set_option maxHeartbeats 4000000 in
theorem works (w : World) : Calls Try.prog 15 #[] w fun e w' => e = .returned (.bool true) ∧ Below w.heap.size w w' := by
  have N : Calls Try.prog 11 #[.int .i64 5] w _ := new_t (B := w.heap.size) 5 (by omega) w (Nat.le_refl _)
  go_enter Try.func15, Try.ntmps15
  go_wp2_with fail
  refine N.mono ?_
  rintro e w1 ⟨b, own, rfl, h1, ho, k1⟩
  have H1 := hide h1
  have HO := hide ho
  have K1 := hide k1
  clear h1 ho k1 N
  go_wp2_with fail
  have u1 : Calls Try.prog 21 #[.pointer (some ⟨b, 0, none⟩), .int .i64 3, .int .i64 1] w1 _ := union_join H1.out 3 1 (by omega) (by omega) (by omega)
  refine u1.mono ?_
  clear u1
  rintro e w2 ⟨rfl, h2, k2⟩
  have H2 := hide h2
  have K2 := hide k2
  clear h2 k2
  go_wp2_with fail
  have u1 : Calls Try.prog 21 #[.pointer (some ⟨b, 0, none⟩), .int .i64 1, .int .i64 3] w2 _ := union_same H2.out 1 3 (by omega) (by omega) (by decide)
  refine u1.mono ?_
  clear u1
  rintro e w3 ⟨rfl, h3, k3⟩
  have H3 := hide h3
  have K3 := hide k3
  clear h3 k3
  go_wp2_with fail
  have u1 : Calls Try.prog 23 #[.pointer (some ⟨b, 0, none⟩), .int .i64 3] w3 (fun e w' => e = .returned (.tuple #[.int .i64 1, .int .i64 0]) ∧ DAt w.heap.size w' b own 5 (jn (fun i => i) 3 1) ∧ Kp own w3 w') := least_in H3.out 3 (by omega)
  refine u1.mono ?_
  clear u1
  rintro e w4 ⟨rfl, h4, k4⟩
  have H4 := hide h4
  have K4 := hide k4
  clear h4 k4
  go_wp2_with fail
  have u1 : Calls Try.prog 13 #[.pointer (some ⟨b, 0, none⟩)] w4 (fun e w' => e = .returned (.int .i64 4) ∧ w4 = w') := count_t H4.out
  refine u1.mono ?_
  clear u1
  rintro e w5 ⟨rfl, rfl⟩
  go_wp2_with fail
  have u1 : Calls Try.prog 14 #[.pointer (some ⟨b, 0, none⟩), .int .i64 1] w4 (fun e w' => e = .returned (.int .i64 2) ∧ DAt w.heap.size w' b own 5 (jn (fun i => i) 3 1) ∧ Kp own w4 w') := size_in H4.out 1 (by omega)
  refine u1.mono ?_
  clear u1
  rintro e w5 ⟨rfl, h5, k5⟩
  have K5 := hide k5
  clear h5 k5
  go_wp2_with fail
  go_ret
  refine ⟨rfl, ?_⟩
  have KK := ((((K1.out.trans (K2.out.mono (p := own) (fun x h _ => h)) (fun x hx => .inr (HO.out x hx))).trans K3.out (fun x hx => .inr (HO.out x hx))).trans K4.out (fun x hx => .inr (HO.out x hx))).trans K5.out (fun x hx => .inr (HO.out x hx)))
  exact KK.below (by simp) (Nat.le_refl _)
section
variable (p : Option Addr) (w : World) (h : bad w p)
include h
theorem union_f (x y : Int) : Calls Try.prog 21 #[.pointer p, .int .i64 x, .int .i64 y] w fun e w' => e = .returned (.tuple #[.bool false, .int .i64 1]) ∧ w = w' := by
  have v0 := valid_f p w h
  go_enter Try.func21, Try.ntmps21
  go_wp2_with (go_at_call 30; refine v0.mono ?_; rintro e w' ⟨rfl, rfl⟩)
  go_ret2
  exact ⟨rfl, rfl⟩
theorem least_f (x : Int) : Calls Try.prog 23 #[.pointer p, .int .i64 x] w fun e w' => e = .returned (.tuple #[.int .i64 0, .int .i64 1]) ∧ w = w' := by
  have v0 := valid_f p w h
  go_enter Try.func23, Try.ntmps23
  go_wp2_with (go_at_call 30; refine v0.mono ?_; rintro e w' ⟨rfl, rfl⟩)
  go_ret2
  exact ⟨rfl, rfl⟩
theorem same_f (x y : Int) : Calls Try.prog 24 #[.pointer p, .int .i64 x, .int .i64 y] w fun e w' => e = .returned (.bool false) ∧ w = w' := by
  have v0 := has_f p x w h
  go_enter Try.func24, Try.ntmps24
  go_wp2_with (go_at_call 31; refine v0.mono ?_; rintro e w' ⟨rfl, rfl⟩)
  go_ret
  exact ⟨rfl, rfl⟩
theorem size_f (x : Int) : Calls Try.prog 14 #[.pointer p, .int .i64 x] w fun e w' => e = .returned (.int .i64 0) ∧ w = w' := by
  have v0 := has_f p x w h
  go_enter Try.func14, Try.ntmps14
  go_wp2_with (go_at_call 31; refine v0.mono ?_; rintro e w' ⟨rfl, rfl⟩)
  go_ret
  exact ⟨rfl, rfl⟩
theorem count_f : Calls Try.prog 13 #[.pointer p] w fun e w' => e = .returned (.int .i64 0) ∧ w = w' := by
  have v0 := valid_f p w h
  go_enter Try.func13, Try.ntmps13
  go_wp2_with (go_at_call 30; refine v0.mono ?_; rintro e w' ⟨rfl, rfl⟩)
  go_ret
  exact ⟨rfl, rfl⟩
theorem len_f : Calls Try.prog 12 #[.pointer p] w fun e w' => e = .returned (.int .i64 0) ∧ w = w' := by
  have v0 := valid_f p w h
  go_enter Try.func12, Try.ntmps12
  go_wp2_with (go_at_call 30; refine v0.mono ?_; rintro e w' ⟨rfl, rfl⟩)
  go_ret
  exact ⟨rfl, rfl⟩
theorem labels_f : Calls Try.prog 25 #[.pointer p] w fun e w' => e = .returned (.slice none 0 0) ∧ w = w' := by
  have v0 := valid_f p w h
  go_enter Try.func25, Try.ntmps25
  go_wp2_with (go_at_call 30; refine v0.mono ?_; rintro e w' ⟨rfl, rfl⟩)
  go_ret
  exact ⟨rfl, rfl⟩
theorem groups_f : Calls Try.prog 19 #[.pointer p] w fun e w' => e = .returned (.slice none 0 0) ∧ w = w' := by
  have v0 := valid_f p w h
  go_enter Try.func19, Try.ntmps19
  go_wp2_with (go_at_call 30; refine v0.mono ?_; rintro e w' ⟨rfl, rfl⟩)
  go_ret
  exact ⟨rfl, rfl⟩
theorem copy_f : Calls Try.prog 26 #[.pointer p] w fun e w' => e = .returned (.pointer none) ∧ w = w' := by
  have v0 := valid_f p w h
  go_enter Try.func26, Try.ntmps26
  go_wp2_with (go_at_call 30; refine v0.mono ?_; rintro e w' ⟨rfl, rfl⟩)
  go_ret
  exact ⟨rfl, rfl⟩
end
end Go.Proofs.Ytgnifimibonbjaa
