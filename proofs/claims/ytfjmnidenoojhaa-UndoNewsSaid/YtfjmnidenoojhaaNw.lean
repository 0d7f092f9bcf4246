/- New, of the document; sets that agree. -/
import Derived.Test.YtfjmnidenoojhaaSt2
set_option linter.unusedVariables false
set_option linter.unusedSimpArgs false
namespace Go.Proofs.Ytfjmnidenoojhaa
open Go.RowKit

theorem build65 (w : World) : (Instr.build 65 #[(0, .bool true)]).run Try.prog w = .ok (.agg #[.bool true, .slice none 0 0, .slice none 0 0]) w := by kernel_rfl
theorem intsF_snoc (k : Nat) : intsF (k + 1) (fun i => i) = intsF k (fun i => i) ++ [.int .i64 (k : Int)] := by simp [intsF, List.range_succ]
theorem SS.push {B : Nat} {wr w' : World} {b k m : Nat} {v v' vP : Value} {o : Obj} (M : SS B wr b v vP k (fun i => i) m)
    (h2 : w'.ownsRow B 3 1 v' (k + 1) (intsF k (fun i => i) ++ [.int .i64 (k : Int)])) (g : (wr.alloc o).grownBy w' v.ownBlock) (hb : v'.ownBlock = v.ownBlock ∨ ∃ q, v'.ownBlock = some q ∧ (wr.alloc o).heap.size ≤ q) :
    SS B (w'.setCell ⟨b, 1, none⟩ v') b v' vP (k + 1) (fun i => i) m ∧ Kp (b :: v.ownBlock.toList) wr (w'.setCell ⟨b, 1, none⟩ v') := by
  have hlt := lt_of_blk M.blk
  have e1 := blk_grown M.blk g (fun e => M.ne b e.symm rfl)
  have new : ∀ q, v'.ownBlock = some q → v.ownBlock = some q ∨ wr.heap.size ≤ q := by
    intro q hq
    rcases hb with h | ⟨q', h, hs⟩
    · exact .inl (by rw [← h]; exact hq)
    · rw [hq] at h; injection h with h; subst h; simp at hs; exact .inr (by omega)
  have ne : ∀ k, v'.ownBlock = some k → k ≠ b := by
    intro q hq
    rcases new q hq with h | h
    · exact M.ne q h
    · omega
  refine ⟨⟨?_, ?_, M.P, M.ge, ne⟩, ?_⟩
  · rw [heap_setCell_same _ _ _ _ _ _ e1]; rfl
  · rw [intsF_snoc]; exact row_side h2 (fun q hq => ne q hq) 1 v'
  · have k1 : Kp (b :: v.ownBlock.toList) wr (wr.alloc o) := Kp.alloc _ _
    have k2 : Kp (b :: v.ownBlock.toList) (wr.alloc o) w' := Kp.of_grown g (fun k hk => by simp [hk])
    have k3 : Kp (b :: v.ownBlock.toList) w' (w'.setCell ⟨b, 1, none⟩ v') := Kp.set _ _ _ (by simp)
    exact (k1.trans k2 (fun x hx => .inl hx)).trans k3 (fun x hx => .inl hx)
set_option maxRecDepth 100000 in
set_option maxHeartbeats 8000000 in
theorem rnew_t (n : Nat) (hn : n ≤ 65536) (w : World) : Calls Try.prog 13 #[.int .i64 (n : Int)] w fun e w' => ∃ b vL, e = .returned (.tuple #[.pointer (some ⟨b, 0, none⟩), .int .i64 0]) ∧ SS w.heap.size w' b vL (.slice none 0 0) n (fun i => i) 0 ∧ Kp [] w w' := by
  have d1 : decide ((n : Int) < 0) = false := by simp
  have d2 : decide ((65536 : Int) < (n : Int)) = false := by simp; omega
  have HN := hide hn
  have hb := build65 w
  obtain ⟨i0, hi, hz0, hz1, hz2⟩ := info_parts info3
  have HI := hide (And.intro hi (And.intro hz0 (And.intro hz1 hz2)))
  clear hn hi hz0 hz1 hz2
  go_enter Try.func13, Try.ntmps13
  go_wp2_with fail
  obtain ⟨W1, hW1⟩ : ∃ W1, W1 = w.alloc (.cells #[.bool true, .slice none 0 0, .slice none 0 0] 65) := ⟨_, rfl⟩
  have S1 : Hid (SS w.heap.size W1 w.heap.size (.slice none 0 0) (.slice none 0 0) 0 (fun i => i) 0) := by
    rw [hW1]
    exact ⟨heap_alloc_new _ _, World.ownsRow_nil _ _ _ _, ⟨none, 0, rfl⟩, Nat.le_refl _, fun k hk => by cases hk⟩
  have K1 : Hid (Kp [] w W1) := by rw [hW1]; exact Kp.alloc _ _
  rw [← hW1]
  clear hW1 hb d1 d2
  go_loopw [5] (fun i wr => ∃ (k : Nat) (v : Value), k ≤ n ∧ i = .int .i64 (k : Int) ∧ Hid (SS w.heap.size wr w.heap.size v (.slice none 0 0) k (fun i => i) 0) ∧ Hid (Kp [] w wr)) (fun i _ => n - (intOf i).toNat)
  case atStart => exact ⟨0, _, Nat.zero_le _, rfl, S1, K1⟩
  case round =>
    obtain ⟨k, v, hk, rfl, hS, hK⟩ := hrel
    have hp := upPtrS
    by_cases hlt : k < n
    · have dk : decide ((k : Int) < (n : Int)) = true := by simp; omega
      have dk' : decide (k < n) = true := by simp; omega
      have ww : IntKind.i64.wrap ((k : Int) + 1) = ((k + 1 : Nat) : Int) := by have := HN.out; rw [IntKind.wrap_i64]; omega
      obtain ⟨p, c, rfl⟩ := row_slice hS.out.L
      obtain ⟨c0, c1, c2⟩ := hS.out.c
      have SN := hide (src_new wr wr.heap.size rfl [.int .i64 (k : Int)] 3)
      have HLT := hide hlt
      have HZ := hide hK.out.size
      clear c0 c2
      go_wp2_with (at_builtin; refine wpList_append_new _ rfl _ _ 49 rfl w.heap.size 3 i0 (.int .i64 0) 1 8 Try.underlying49 HI.out.1 HI.out.2.1 HI.out.2.2.1 HI.out.2.2.2 rfl (by decide) (.slice p k c) k (intsF k (fun i => i)) rfl (hS.out.L.alloc _) ⟨wr.heap.size, 0, none⟩ 1 1 [.int .i64 (k : Int)] rfl rfl SN.out (by intro u hu; simp at hu; subst hu; rfl) (by have := HN.out; have := HLT.out; unfold maxLen; omega) (by have := HN.out; have := HLT.out; omega) (by have := HZ.out; simp; omega) ?_; intro v' w4 r1 g1 o1; obtain ⟨p9, d9, rfl⟩ := row_slice r1; have SP := hide (hS.out.push r1 g1 o1); have f1 : w4.frozen? ⟨w.heap.size, 1, none⟩ = false := free_of_blk (blk_grown hS.out.blk g1 (fun e => hS.out.ne _ e.symm rfl)) _; have e1 : w4.cell? ⟨w.heap.size, 1, none⟩ = some (.slice p k c) := (by simp [cell_of_blk (blk_grown hS.out.blk g1 (fun e => hS.out.ne _ e.symm rfl))]); clear r1 g1 o1)
      have KN := hide (hK.out.trans SP.out.2 (fun z hz => by
        simp at hz
        rcases hz with rfl | hz
        · exact .inr (Nat.le_refl _)
        · exact .inr (hS.out.L.lt z hz).1))
      have SN2 := hide SP.out.1
      go_roundw
      case rel => exact ⟨k + 1, _, by omega, by first | rfl | go_num, SN2, KN⟩
      case measure => simp [intOf]; omega
    · have : k = n := by omega
      subst this
      have dk : decide ((k : Int) < (k : Int)) = false := by simp
      have dk' : decide (k < k) = false := by simp
      go_wp2_with fail
      go_ret2
      exact ⟨_, v, rfl, hS.out, hK.out⟩
theorem rnew_o (x : Int) (w : World) (h : x < 0 ∨ 65536 < x) : Calls Try.prog 13 #[.int .i64 x] w fun e w' => e = .returned (.tuple #[.pointer none, .int .i64 2]) ∧ w = w' := by
  by_cases h0 : x < 0
  · have d1 : decide (x < 0) = true := by simp [h0]
    clear h h0
    go_enter Try.func13, Try.ntmps13
    go_wp2_with fail
    go_ret2
    exact ⟨rfl, rfl⟩
  · have d1 : decide (x < 0) = false := by simp; omega
    have d2 : decide ((65536 : Int) < x) = true := by simp; omega
    clear h h0
    go_enter Try.func13, Try.ntmps13
    go_wp2_with fail
    go_ret2
    exact ⟨rfl, rfl⟩
theorem new_o (x : Int) (w : World) (h : x < 0 ∨ 65536 < x) : Calls Try.prog 12 #[.int .i64 x] w fun e w' => e = .returned (.tuple #[.pointer none, .int .i64 2]) ∧ w = w' := by
  by_cases h0 : x < 0
  · have d1 : decide (x < 0) = true := by simp [h0]
    clear h h0
    go_enter Try.func12, Try.ntmps12
    go_wp2_with fail
    go_ret2
    exact ⟨rfl, rfl⟩
  · have d1 : decide (x < 0) = false := by simp; omega
    have d2 : decide ((65536 : Int) < x) = true := by simp; omega
    clear h h0
    go_enter Try.func12, Try.ntmps12
    go_wp2_with fail
    go_ret2
    exact ⟨rfl, rfl⟩
set_option maxHeartbeats 4000000 in
theorem agree_n (w : World) (x y : Int) : Calls Try.prog 14 #[.pointer none, .pointer none, .int .i64 x, .int .i64 y] w fun e w' => e = .returned (.bool true) ∧ Kp [] w w' := by
  have bd : ∀ W, bad W none := fun W => .inl rfl
  have BD := hide bd
  clear bd
  go_enter Try.func14, Try.ntmps14
  go_wp2_with fail
  refine (same_f none _ (BD.out _) x y).mono ?_
  rintro e w' ⟨rfl, rfl⟩
  go_wp2_with fail
  refine (rsame_n _ x y).mono ?_
  rintro e w1 ⟨rfl, k1⟩
  have K1 := hide k1
  clear k1
  go_wp2_with fail
  refine (size_f none _ (BD.out _) x).mono ?_
  rintro e w' ⟨rfl, rfl⟩
  go_wp2_with fail
  refine (rsize_n _ x).mono ?_
  rintro e w' ⟨rfl, rfl⟩
  go_wp2_with fail
  refine (count_f none _ (BD.out _)).mono ?_
  rintro e w' ⟨rfl, rfl⟩
  go_wp2_with fail
  refine (rcount_n _).mono ?_
  rintro e w' ⟨rfl, rfl⟩
  go_wp2_with fail
  refine (mark_f none _ (BD.out _)).mono ?_
  rintro e w' ⟨rfl, rfl⟩
  go_wp2_with fail
  refine (rmark_n _).mono ?_
  rintro e w' ⟨rfl, rfl⟩
  go_wp2_with fail
  refine (labels_f none _ (BD.out _)).mono ?_
  rintro e w' ⟨rfl, rfl⟩
  go_wp2_with fail
  refine (rlabels_n _).mono ?_
  rintro e w' ⟨rfl, rfl⟩
  go_wp2_with fail
  refine (same_rows _ 0 (fun i => i) 0 0 none none 0 0 (World.ownsRow_nil _ _ _ _) (World.ownsRow_nil _ _ _ _) (by omega)).mono ?_
  rintro e w2 ⟨rfl, k2⟩
  have K2 := hide (K1.out.trans k2 (by simp))
  clear k2
  go_wp2_with fail
  go_ret
  exact ⟨rfl, K2.out⟩
set_option maxHeartbeats 8000000 in
theorem agree_t {B B' : Nat} {w : World} {b d n : Nat} {own : List Nat} {L : Nat → Nat} {H : List (Nat → Nat)} {vL vP : Value} (h : US B w b own n L H) (g : SS B' w d vL vP n L H.length) (x y : Int) : Calls Try.prog 14 #[.pointer (some ⟨b, 0, none⟩), .pointer (some ⟨d, 0, none⟩), .int .i64 x, .int .i64 y] w fun e w' => e = .returned (.bool true) ∧ Kp [] w w' := by
  have HU := hide h
  have HS := hide g
  have FA := hide h.facts
  have HN : Hid (n ≤ 65536) := by obtain ⟨_, _, _, _, _, _, _, _, _, hn, _⟩ := h; exact hn
  clear h g
  go_enter Try.func14, Try.ntmps14
  go_wp2_with fail
  refine (same_a HU.out x y).mono ?_
  rintro e w' ⟨rfl, rfl⟩
  go_wp2_with fail
  refine (rsame_s HS.out x y).mono ?_
  rintro e w1 ⟨rfl, k⟩
  have HU1 := hide (HU.out.keep k (by simp)); have HS1 := hide (HS.out.keep k (by simp)); have K1 := hide k
  clear k HU HS
  generalize sameV n L x y = sv at *
  go_wp2_with fail
  refine (size_a HU1.out x).mono ?_
  rintro e w2 ⟨rfl, k⟩
  have HU2 := hide (HU1.out.keep k (by simp)); have HS2 := hide (HS1.out.keep k (by simp)); have K2 := hide (K1.out.trans k (by simp))
  clear k HU1 HS1 K1
  go_wp2_with fail
  refine (rsize_s HS2.out x HN.out).mono ?_
  rintro e w3 ⟨rfl, k⟩
  have HU3 := hide (HU2.out.keep k (by simp)); have HS3 := hide (HS2.out.keep k (by simp)); have K3 := hide (K2.out.trans k (by simp))
  clear k HU2 HS2 K2
  generalize sizeV n L x = zv at *
  go_wp2_with fail
  refine (count_u HU3.out).mono ?_
  rintro e w4 ⟨rfl, bb⟩
  have k := Kp.of_below (o := []) bb
  have HU4 := hide (HU3.out.keep k (by simp)); have HS4 := hide (HS3.out.keep k (by simp)); have K4 := hide (K3.out.trans k (by simp))
  clear k bb HU3 HS3 K3
  go_wp2_with fail
  refine (rcount_s HS4.out HN.out FA.out.1.1 FA.out.1.2).mono ?_
  rintro e w5 ⟨rfl, k⟩
  have HU5 := hide (HU4.out.keep k (by simp)); have HS5 := hide (HS4.out.keep k (by simp)); have K5 := hide (K4.out.trans k (by simp))
  clear k HU4 HS4 K4
  generalize roots L n = rv at *
  go_wp2_with fail
  refine (mark_u HU5.out).mono ?_
  rintro e w' ⟨rfl, rfl⟩
  go_wp2_with fail
  refine (rmark_s HS5.out).mono ?_
  rintro e w' ⟨rfl, rfl⟩
  go_wp2_with fail
  refine (labels_u HU5.out).mono ?_
  rintro e w6 ⟨rfl, r6, k⟩
  have HS6 := hide (HS5.out.keep k (by simp)); have K6 := hide (K5.out.trans k (by simp))
  have R6 := hide r6
  clear k r6 HS5 K5 HU5
  go_wp2_with fail
  refine (rlabels_s HS6.out HN.out).mono ?_
  rintro e w7 ⟨v7, rfl, r7, k⟩
  obtain ⟨p7, c7, rfl⟩ := row_slice r7
  have K7 := hide (K6.out.trans k (by simp))
  have SM := hide (same_rows w7 n L _ _ _ _ _ _ (k.row R6.out (by simp)) r7 HN.out)
  clear k r7 HS6 K6 R6
  go_wp2_with fail
  refine SM.out.mono ?_
  rintro e w8 ⟨rfl, k⟩
  have K8 := hide (K7.out.trans k (by simp))
  clear k SM
  go_wp2_with fail
  go_ret
  exact ⟨rfl, K8.out⟩
end Go.Proofs.Ytfjmnidenoojhaa
