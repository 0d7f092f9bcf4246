/- check, records, Inversions, Less. -/
import Derived.Test.YtiebmjdclicheaaMF
import Derived.Deep.RegionHeld3
set_option linter.unusedVariables false
set_option linter.unusedSimpArgs false
namespace Go.Proofs.Ytiebmjdclicheaa
open Go.RowKit

theorem check_ok (n : Nat) (k : Int) (hn : n ≤ 65536) (hk : k = 1 ∨ k = 2 ∨ k = 3) (w : World) : Calls Try.prog 29 #[.int .i64 (n : Int), .int .i64 k] w fun e w' => e = .returned (.int .i64 0) ∧ w = w' := by
  have d : decide ((65536 : Int) < (n : Int)) = false := by simp; omega
  rcases hk with rfl | rfl | rfl
  all_goals
    clear hn
    go_enter Try.func29, Try.ntmps29
    go_wp2_with fail
    go_ret
    exact ⟨rfl, rfl⟩
theorem check_arg (n : Int) (k : Int) (hk : ¬ (k = 1 ∨ k = 2 ∨ k = 3)) (w : World) : Calls Try.prog 29 #[.int .i64 n, .int .i64 k] w fun e w' => e = .returned (.int .i64 2) ∧ w = w' := by
  have d1 : (k == 1) = false := by simp; omega
  have d2 : (k == 2) = false := by simp; omega
  have d3 : (k == 3) = false := by simp; omega
  have n1 : (k != 1) = true := by simp; omega
  have n2 : (k != 2) = true := by simp; omega
  have n3 : (k != 3) = true := by simp; omega
  clear hk
  go_enter Try.func29, Try.ntmps29
  go_wp2_with fail
  go_ret
  exact ⟨rfl, rfl⟩
theorem enters_r (args : Array Value) (w : World) : (callFunc 44 args).run Try.prog w = .ok (.enter 44 args) w := by kernel_rfl
theorem enters_p (args : Array Value) (w : World) : (callFunc 36 args).run Try.prog w = .ok (.enter 36 args) w := by kernel_rfl
set_option maxRecDepth 100000 in
set_option maxHeartbeats 4000000 in
theorem recs1_t (a b : R4) (k : Int) {W : World} {kb : Nat} (h : W.heap[kb]? = some (.cells #[.int .i64 k] 25 (0, 0))) :
    Calls Try.prog 44 (#[a.val, b.val] ++ #[.pointer (some ⟨kb, 0, none⟩)]) W fun e W' => e = .returned (.bool (bef k a b)) ∧ Kp [] W W' := by
  have K2 := hide ((Kp.alloc W (.cells #[.int .u64 a.u, .int .u64 a.v, .int .i64 a.w, .int .i64 a.t] 24)).allocK (.cells #[.int .u64 b.u, .int .u64 b.v, .int .i64 b.w, .int .i64 b.t] 24))
  have ck : ((W.alloc (.cells #[.int .u64 a.u, .int .u64 a.v, .int .i64 a.w, .int .i64 a.t] 24)).alloc (.cells #[.int .u64 b.u, .int .u64 b.v, .int .i64 b.w, .int .i64 b.t] 24)).cell? ⟨kb, 0, none⟩ = some (.int .i64 k) := by simp [cell_of_blk (K2.out.blk h (by simp))]
  have CQ := hide (compare_t a b k)
  unfold R4.val at CQ ⊢
  unfold bef
  generalize cmpF k a b = z at *
  clear h
  go_enter Try.func44, Try.ntmps44
  go_wp2_with fail
  refine (CQ.out _).mono ?_
  rintro e w1 ⟨rfl, k1⟩
  have K3 := hide (K2.out.trans0 k1)
  clear k1 ck
  go_wp2_with fail
  go_ret
  exact ⟨rfl, K3.out⟩
theorem records_t (k : Int) (w : World) : Calls Try.prog 34 #[.int .i64 k] w fun e w' => ∃ kb, e = .returned (.func (.func 44) #[] #[.pointer (some ⟨kb, 0, none⟩)]) ∧ w'.heap[kb]? = some (.cells #[.int .i64 k] 25 (0, 0)) ∧ Kp [] w w' := by
  have hmf : ∀ (fn : Fn) (first cap : Array Value) (w : World), (Instr.makeFunc fn first cap).run Try.prog w = .ok (.func fn first cap) w := fun _ _ _ _ => rfl
  have B := hide (heap_alloc_new w (.cells #[.int .i64 k] 25))
  have K := hide (Kp.alloc w (.cells #[.int .i64 k] 25))
  go_enter Try.func34, Try.ntmps34
  go_wp2_with fail
  go_ret
  exact ⟨_, rfl, B.out, K.out⟩
set_option maxRecDepth 100000 in
set_option maxHeartbeats 4000000 in
theorem inv_t {w : World} {p : Option Addr} {c : Nat} {l : List R4} {k : Int} (hk : k = 1 ∨ k = 2 ∨ k = 3) (hn : l.length ≤ 65536) (hc : l.length ≤ c ∧ c ≤ maxLen) (hr : RdR w p l) :
    Calls Try.prog 25 #[.slice p l.length c, .int .i64 k] w fun e w' => e = .returned (.tuple #[.int .i64 ((srt (bef k) l.length l).2 : Int), .int .i64 0]) ∧ Kp [] w w' := by
  have CH := hide (check_ok l.length k hn hk w)
  have RC := hide (records_t k w)
  have SO := hide (fun (kb : Nat) (w1 : World) (hb : w1.heap[kb]? = some (.cells #[.int .i64 k] 25 (0, 0))) (k1 : Kp [] w w1) =>
    sortR_t (bf := bef k) (w0 := w1) (k := 44) (cap := #[.pointer (some ⟨kb, 0, none⟩)]) (l0 := l) enters_r (fun W kW x y _ _ => recs1_t y x k (kW.blk hb (by simp))) l.length l w1 p c (Nat.le_refl _) hn hc.1 hc.2 (fun x hx => hx) (Kp.refl _ _) (hr.below k1))
  generalize l.length = n at *
  clear hk hn hc hr
  go_enter Try.func25, Try.ntmps25
  go_wp2_with fail
  refine CH.out.mono ?_
  rintro e w' ⟨rfl, rfl⟩
  go_wp2_with fail
  refine RC.out.mono ?_
  rintro e w1 ⟨kb, rfl, hb, k1⟩
  have S1 := hide (SO.out kb w1 hb k1)
  have K1 := hide k1
  clear hb k1 SO RC CH
  go_wp2_with fail
  refine S1.out.mono ?_
  rintro e w2 ⟨v, rfl, _, k2⟩
  have K2 := hide (K1.out.trans0 k2)
  clear k2 S1
  go_wp2_with fail
  go_ret2
  exact ⟨rfl, K2.out⟩
end Go.Proofs.Ytiebmjdclicheaa
