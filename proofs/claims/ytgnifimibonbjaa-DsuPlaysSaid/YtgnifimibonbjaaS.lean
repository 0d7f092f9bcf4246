/- The specification's sets: New, Groups. -/
import Derived.Test.YtgnifimibonbjaaR
set_option linter.unusedVariables false
set_option linter.unusedSimpArgs false
namespace Go.Proofs.Ytgnifimibonbjaa
open Go.RowKit

theorem intsF_succ (k : Nat) (f : Nat → Nat) : intsF (k + 1) f = intsF k f ++ [.int .i64 ((f k : Nat) : Int)] := by
  unfold intsF
  rw [List.range_succ, List.map_append]
  rfl
theorem build59 (w : World) : (Instr.build 59 #[(0, .bool true)]).run Try.prog w = .ok (.agg #[.bool true, .slice none 0 0]) w := by kernel_rfl
theorem SM.push {B : Nat} {wr w' : World} {b k : Nat} {v v' : Value} {f : Nat → Nat} {o : Obj} (M : SM B wr b v k f) (h2 : w'.ownsRow B 3 1 v' (k + 1) (intsF k f ++ [.int .i64 ((f k : Nat) : Int)])) (g : (wr.alloc o).grownBy w' v.ownBlock) (hb : v'.ownBlock = v.ownBlock ∨ ∃ q, v'.ownBlock = some q ∧ (wr.alloc o).heap.size ≤ q) :
    SM B (w'.setCell ⟨b, 1, none⟩ v') b v' (k + 1) f ∧ ∀ w0, Kp [] w0 wr → w0.heap.size ≤ B → Kp [] w0 (w'.setCell ⟨b, 1, none⟩ v') := by
  have hlt := lt_of_blk M.blk
  have e1 := blk_grown M.blk g (fun e => M.ap b e.symm rfl)
  have ne : ∀ k, v'.ownBlock = some k → k ≠ b := by
    intro q hq
    rcases hb with h | ⟨q', h, hs⟩
    · exact M.ap q (by rw [← h]; exact hq)
    · rw [hq] at h; injection h with h; subst h; simp at hs; omega
  refine ⟨⟨?_, ?_, M.ge, ne⟩, fun w0 kp hB => ?_⟩
  · rw [heap_setCell_same _ _ _ _ _ _ e1]; rfl
  · rw [intsF_succ]
    exact row_side h2 (fun q hq => ne q hq) 1 v'
  · have kg := (kp.trans (Kp.alloc (o := []) wr o) (by simp)).grown g (fun x hx => by have := (M.row.lt x hx).1; omega)
    exact kg.trans (Kp.set (o := [b]) w' ⟨b, 1, none⟩ v' (by simp)) (fun x hx => .inr (by simp at hx; subst hx; have := M.ge; omega))
set_option maxRecDepth 100000 in
set_option maxHeartbeats 8000000 in
theorem snew_t (n : Nat) (hn : n ≤ 65536) (w : World) :
    Calls Try.prog 16 #[.int .i64 (n : Int)] w fun e w' => ∃ b own, e = .returned (.tuple #[.pointer (some ⟨b, 0, none⟩), .int .i64 0]) ∧ SAt w.heap.size w' b own n (fun i => i) ∧ (∀ x ∈ own, w.heap.size ≤ x) ∧ Kp [] w w' := by
  have hp := spPtr
  have d1 : decide ((n : Int) < 0) = false := by simp
  have d2 : decide ((65536 : Int) < (n : Int)) = false := by simp; omega
  have HN := hide hn
  have bd := build59 w
  obtain ⟨i0, hi, hz0, hz1, hz2⟩ := info_parts info3
  have HI := hide (And.intro hi (And.intro hz0 (And.intro hz1 hz2)))
  have S0 : Hid (SM w.heap.size (w.alloc (.cells #[.bool true, .slice none 0 0] 59)) w.heap.size (.slice none 0 0) 0 (fun i => i)) := ⟨heap_alloc_new _ _, World.ownsRow_nil _ _ _ _, Nat.le_refl _, by intro k hk; cases hk⟩
  have K0 := hide (Kp.alloc (o := []) w (.cells #[.bool true, .slice none 0 0] 59))
  clear hi hz0 hz1 hz2 hn
  go_enter Try.func16, Try.ntmps16
  go_wp2_with fail
  go_loopw [5] (fun x wr => ∃ (k : Nat) (v : Value), k ≤ n ∧ x = .int .i64 (k : Int) ∧ Hid (SM w.heap.size wr w.heap.size v k (fun i => i)) ∧ Hid (Kp [] w wr)) (fun x _ => n - (intOf x).toNat)
  case atStart => exact ⟨0, _, by omega, rfl, S0, K0⟩
  case round =>
    obtain ⟨k, v, hk, rfl, hM, hK⟩ := hrel
    by_cases hkn : k < n
    · have dk : decide (k < n) = true := by simp; omega
      have dki : decide ((k : Int) < (n : Int)) = true := by simp; omega
      have wk : IntKind.i64.wrap ((k : Int) + 1) = ((k + 1 : Nat) : Int) := by have := HN.out; rw [IntKind.wrap_i64]; omega
      have c1 := hM.out.c.2
      have SN := hide (src_new wr wr.heap.size rfl [.int .i64 (k : Int)] 3)
      have HKN := hide hkn
      go_wp2_with (at_builtin; refine wpList_append_new _ rfl _ _ 42 rfl w.heap.size 3 i0 (.int .i64 0) 1 8 Try.underlying42 HI.out.1 HI.out.2.1 HI.out.2.2.1 HI.out.2.2.2 rfl (by decide) v k (intsF k (fun i => i)) rfl (hM.out.row.alloc _) ⟨wr.heap.size, 0, none⟩ 1 1 [.int .i64 (k : Int)] rfl rfl SN.out (by intro u hu; simp at hu; subst hu; rfl) (by have := HN.out; unfold maxLen; omega) (by have := HN.out; omega) (by have := hK.out.size; simp; omega) ?_; intro v' w1 r1 g1 o1; obtain ⟨p1, d1, rfl⟩ := row_slice r1; have SP := hide (hM.out.push r1 g1 o1); have f1 : w1.frozen? ⟨w.heap.size, 1, none⟩ = false := free_of_blk (blk_grown hM.out.blk g1 (fun e => hM.out.ap _ e.symm rfl)) _; have e1 : w1.cell? ⟨w.heap.size, 1, none⟩ = some v := (by simp [cell_of_blk (blk_grown hM.out.blk g1 (fun e => hM.out.ap _ e.symm rfl))]); clear r1 g1 o1)
      go_roundw
      case rel => exact ⟨k + 1, .slice p1 (k + 1) d1, by omega, rfl, SP.out.1, SP.out.2 w hK.out (Nat.le_refl _)⟩
      case measure => simp [intOf]; omega
    · have : k = n := by omega
      subst this
      have dk : decide (k < k) = false := by simp
      have dki : decide ((k : Int) < (k : Int)) = false := by simp
      go_wp2_with fail
      go_ret2
      refine ⟨_, _, rfl, ⟨v, hM.out, HN.out, rfl⟩, fun x hx => ?_, hK.out⟩
      simp at hx
      rcases hx with rfl | hx
      · exact Nat.le_refl _
      · exact (hM.out.row.lt x hx).1
set_option maxHeartbeats 2000000 in
theorem snew_f (n : Int) (h : n < 0 ∨ 65536 < n) (w : World) : Calls Try.prog 16 #[.int .i64 n] w fun e w' => e = .returned (.tuple #[.pointer none, .int .i64 2]) ∧ w = w' := by
  rcases h with h | h
  · go_enter Try.func16, Try.ntmps16
    go_wp2_with fail
    go_ret2
    exact ⟨rfl, rfl⟩
  · go_enter Try.func16, Try.ntmps16
    go_wp2_with fail
    go_ret2
    exact ⟨rfl, rfl⟩
set_option maxHeartbeats 2000000 in
theorem new_f (n : Int) (h : n < 0 ∨ 65536 < n) (w : World) : Calls Try.prog 11 #[.int .i64 n] w fun e w' => e = .returned (.tuple #[.pointer none, .int .i64 2]) ∧ w = w' := by
  rcases h with h | h
  · go_enter Try.func11, Try.ntmps11
    go_wp2_with fail
    go_ret2
    exact ⟨rfl, rfl⟩
  · go_enter Try.func11, Try.ntmps11
    go_wp2_with fail
    go_ret2
    exact ⟨rfl, rfl⟩
end Go.Proofs.Ytgnifimibonbjaa
