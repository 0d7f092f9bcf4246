/- slices.Backward: its contract. -/
import Derived.RangeFuncNested
import Derived.RangeFuncBound
import Derived.RangeFuncCalls
import Derived.RangeFuncLeaves
import Derived.Shelf.Abstract
import Derived.Shelf.RegionOpen
import Derived.WalkKit
import Derived.OwnWalkIn
import Derived.TacticsInMore
import Derived.LoopNIn
import Derived.LoopIn
import Derived.Test.YtfjmnidenoojhaaLb
set_option linter.unusedVariables false
set_option linter.unusedSimpArgs false
namespace Go.Proofs.Ytfjmnidenoojhaa
open Go.RowKit Go.Shelf

attribute [local go_sem] Oper.semAt_some

/-- the first k of a sequence -/
def fst {α : Type} (sq : Nat → α) (k : Nat) : List α := (List.range k).map sq
theorem fst_succ {α : Type} (sq : Nat → α) (k : Nat) : fst sq (k + 1) = fst sq k ++ [sq k] := by simp [fst, List.range_succ]
theorem fst_len {α : Type} (sq : Nat → α) (k : Nat) : (fst sq k).length = k := by simp [fst]

set_option maxRecDepth 100000 in
set_option maxHeartbeats 4000000 in
/-- the function that slices.Backward makes; sq k is what comes in round k -/
theorem back1_in {α : Type} (encs : α → Array Value) (sq : Nat → α) (F : Fence) (n : Nat) (h48 : F.fn 48) (hro : F.round = none) (hn : 1 ≤ n) (l Bs b off cap len : Nat) (V : Nat → Nat) (hreach : len ≤ 65536) (henc : ∀ k, k < len → encs (sq k) = #[.int .i64 ((len - 1 - k : Nat) : Int), .int .i64 ((V (len - 1 - k) : Nat) : Int)]) (Kq : World → World → Prop)
    (hKr : ∀ W, Kq W W) (hKt : ∀ {A B C : World}, Kq A B → Kq B C → Kq A C)
    (J Jx : List α → World → Prop)
    (hY : ∀ pre x W, J pre W → pre.length < len → YieldAt F (n - 1) Try.prog l (encs x) W fun e W' =>
      (e = .returned (.bool true) ∧ J (pre ++ [x]) W' ∧ Kq W W') ∨ (e = .returned (.bool false) ∧ Jx (pre ++ [x]) W'))
    (W : World) (hBs : ∀ W', Kq W W' → W'.cell? ⟨Bs, 0, none⟩ = some (.slice (some ⟨b, off, none⟩) len cap)) (hc : ∀ W', Kq W W' → ∀ j, j < len → W'.cell? ⟨b, off + j, none⟩ = some (.int .i64 ((V j : Nat) : Int))) (h0 : J [] W) :
    CallsIn F n Try.prog 48 #[.func (.yield l) #[] #[], .pointer (some ⟨Bs, 0, none⟩)] W fun e W' => (∃ v, e = .returned v) ∧
      ((∃ ys, ys = fst sq len ∧ J ys W') ∨ (∃ pre, (∃ k, k ≤ len ∧ pre = fst sq k) ∧ Jx pre W')) := by
  have hb0 := hBs W (hKr W)
  have wl : IntKind.i64.wrap ((len : Int) - 1) = (len : Int) - 1 := by rw [IntKind.wrap_i64]; omega
  refine callsIn_of_wp Try.func48 rfl h48 ?_ hro
  simp only [Try.ntmps48, List.size_toArray, List.length_cons, List.length_nil, Nat.reduceAdd, Nat.reduceSub, Array.replicate_succ, Array.replicate_zero, List.push_toArray, List.append_toArray, List.nil_append, List.cons_append]
  gi_wp2
  gi_loopw [3] (fun i wr => ∃ m : Nat, m ≤ len ∧ i = .int .i64 ((m : Int) - 1) ∧ J (fst sq (len - m)) wr ∧ Kq W wr)
    (fun i _ => (intOf i + 1).toNat)
  case atStart => exact ⟨len, Nat.le_refl _, rfl, by rw [Nat.sub_self]; exact h0, hKr W⟩
  case round =>
    obtain ⟨m, hm, rfl, hJs, hnx⟩ := hrel
    rcases m with _ | m
    · gi_wp2
      go_end0
      exact ⟨⟨_, rfl⟩, .inl ⟨_, rfl, by simpa using hJs⟩⟩
    · obtain ⟨fn, tmps, assign, body, hy, hR⟩ := hY _ (sq (len - (m + 1))) wr hJs (by rw [fst_len]; omega)
      have hbx := hBs wr hnx
      have hcx := hc wr hnx m (by omega)
      have em : len - 1 - (len - (m + 1)) = m := by omega
      rw [henc _ (by omega), em] at hy
      have ei : ((m + 1 : Nat) : Int) - 1 = (m : Int) := by omega
      rw [ei]
      have hml : m < len := by omega
      have wm : IntKind.i64.wrap ((m : Int) - 1) = (m : Int) - 1 := by rw [IntKind.wrap_i64]; omega
      gi_wp2
      refine hR.mono ?_
      rintro e W3 (⟨rfl, hJ3, hk3⟩ | ⟨rfl, hJx3⟩)
      · gi_wp2
        go_roundw
        case rel => exact ⟨m, by omega, rfl, by rw [show len - m = len - (m + 1) + 1 by omega, fst_succ]; exact hJ3, hKt hnx hk3⟩
        case measure => simp [intOf] <;> omega
      · gi_wp2
        refine bodyPost_ret (results_none rfl _ _ _) rfl ?_
        exact ⟨⟨_, rfl⟩, .inr ⟨_, ⟨len - (m + 1) + 1, by omega, by rw [fst_succ]⟩, hJx3⟩⟩
/-- the contract -/
theorem back_stops {α : Type} (encs : α → Array Value) (sq : Nat → α) (F : Fence) (n : Nat) (h48 : F.fn 48) (hro : F.round = none) (hn : 1 ≤ n) (Bs b off cap len : Nat) (V : Nat → Nat) (hreach : len ≤ 65536) (henc : ∀ k, k < len → encs (sq k) = #[.int .i64 ((len - 1 - k : Nat) : Int), .int .i64 ((V (len - 1 - k) : Nat) : Int)]) (Kq : World → World → Prop)
    (hKr : ∀ W, Kq W W) (hKt : ∀ {A B C : World}, Kq A B → Kq B C → Kq A C) (w : World)
    (hBs : ∀ W W', Below w.heap.size w W → Kq W W' → W'.cell? ⟨Bs, 0, none⟩ = some (.slice (some ⟨b, off, none⟩) len cap)) (hc : ∀ W W', Below w.heap.size w W → Kq W W' → ∀ j, j < len → W'.cell? ⟨b, off + j, none⟩ = some (.int .i64 ((V j : Nat) : Int))) :
    SeqStopsK F n Try.prog 48 #[.pointer (some ⟨Bs, 0, none⟩)] encs Kq (fun ys => ys = fst sq len) (fun pre => ∃ k, k ≤ len ∧ pre = fst sq k) len w := fun l J Jx W hW _ _ hY h0 =>
  back1_in encs sq F n h48 hro hn l Bs b off cap len V hreach henc Kq hKr (fun h k => hKt h k) J Jx hY W (fun W' hk => hBs W W' hW hk) (fun W' hk => hc W W' hW hk) h0
set_option maxHeartbeats 1000000 in
/-- slices.Backward: the slice is boxed; the function captures the box -/
theorem back_in (F : Fence) (n : Nat) (h47 : F.fn 47) (hro : F.round = none) (a : Option Addr) (len cap : Nat) (w : World) :
    CallsIn F n Try.prog 47 #[.slice a len cap] w fun e w' => e = .returned (.func (.func 48) #[] #[.pointer (some ⟨w.heap.size, 0, none⟩)]) ∧ w' = w.alloc (.cells #[.slice a len cap] 49) := by
  refine callsIn_of_wp Try.func47 rfl h47 ?_ hro
  simp only [Try.ntmps47, List.size_toArray, List.length_cons, List.length_nil, Nat.reduceAdd, Nat.reduceSub, Array.replicate_succ, Array.replicate_zero, List.push_toArray, List.append_toArray, List.nil_append, List.cons_append]
  gi_wp2
  go_ret
  exact ⟨rfl, rfl⟩
end Go.Proofs.Ytfjmnidenoojhaa
