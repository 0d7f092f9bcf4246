/- Add: what is done. -/
import Derived.Test.YtgcnccfmfnifbaaFI
set_option linter.unusedVariables false
set_option linter.unusedSimpArgs false
namespace Go.Proofs.Ytgcnccfmfnifbaa
open Go.RowKit Go.Shelf

attribute [local go_sem] Oper.semAt_some

set_option maxRecDepth 100000 in
set_option maxHeartbeats 4000000 in
theorem over_t {B : Nat} {w : World} {b n : Nat} {own : List Nat} {C : Nat → Int} (h : FAt B w b n own C) (i : Nat) (d : Int) (hd : I64 d) (hi : i < n) (hx : 0 ≤ C i + d) (ht : 9223372036854775807 < sumS C n + d) :
    Calls Try.prog 16 #[.pointer (some ⟨b, 0, none⟩), .int .i64 (i : Int), .int .i64 d] w fun e w' => e = .returned (.int .i64 7) ∧ Kp [] w w' := by
  have hp := upC'
  have h' := h.keep0 (bxs_kp w b d)
  have xb : 0 ≤ C i ∧ C i ≤ 9223372036854775807 := by
    have a1 := h.nn i
    have a2 := h.sum_bd (show i + 1 ≤ n by omega)
    have a3 := h.sum_bd (show i ≤ n by omega)
    rw [sumS] at a2
    omega
  have GT := hide (fun W (kW : Kp [] (bxs w b d) W) => get_t (h'.keep0 kW) (i : Int))
  have eg : getV C n (i : Int) = C i := by unfold getV; rw [if_pos (by omega), Int.toNat_natCast]
  rw [eg] at GT
  have AD := hide (fun W => add_any (C i) d W (by unfold I64; omega) hd)
  have tb := h.sum_bd (Nat.le_refl n)
  have AT := hide (fun W => (add_any (sumS C n) d W (by unfold I64; omega) hd).mono (fun e w' (q : _ ∧ W = w') => And.intro q.1 q.2.symm))
  have gn := gv_pos (C i + d) (by omega)
  rw [ge_no (show ¬ I64 (sumS C n + d) by unfold I64; omega)] at AT
  obtain ⟨⟨v, M, ho⟩, _⟩ := h'
  generalize C i = x at *
  generalize sumS C n = tot at *
  generalize gv (x + d) = y at *
  generalize ge (x + d) = z at *
  generalize gv (tot + d) = y2 at *
  obtain ⟨p, c, rfl⟩ := row_slice M.row
  have VM := hide (valid_m M)
  have K0 := hide (bxs_kp w b d)
  obtain ⟨b0, b1, hsz⟩ := bxs_at w b d
  have HB := hide (And.intro b0 (And.intro b1 M.blk))
  have HSZ := hide hsz
  have c2 : (bxs w b d).cell? ⟨b, 2, none⟩ = some (.slice p n c) := by simp [cell_of_blk M.blk]
  have d1 : decide ((i : Int) < 0) = false := by simp
  have d2 : decide ((n : Int) ≤ (i : Int)) = false := by simp; omega
  have d2' : decide (n ≤ i) = false := by simp; omega
  have kd : Kp [] (bxs w b d) (bxs w b d).drew := Kp.drewN [] _ 1
  have S0 : (bxs w b d).drew.cell? ⟨w.heap.size, 0, none⟩ = some (.pointer (some ⟨b, 0, none⟩)) ∧ (bxs w b d).drew.cell? ⟨w.heap.size + 1, 0, none⟩ = some (.int .i64 d) := ⟨by simp [cell_of_blk (kd.blk b0 (by simp))], by simp [cell_of_blk (kd.blk b1 (by simp))]⟩
  have G1 := hide (GT.out _ kd)
  have c0 : (bxs w b d).cell? ⟨w.heap.size, 0, none⟩ = some (.pointer (some ⟨b, 0, none⟩)) := by simp [cell_of_blk b0]
  clear b0 b1 hsz M ho h eg xb hx hi GT ht tb
  go_enter Try.func16, Try.ntmps16
  go_wp2_with fail
  refine VM.out.mono ?_
  rintro e w' ⟨rfl, rfl⟩
  generalize bxs w b d = W at *
  go_wp2_with fail
  go_region_held3 (fun w' => w'.cell? ⟨w.heap.size, 0, none⟩ = some (.pointer (some ⟨b, 0, none⟩)) ∧ w'.cell? ⟨w.heap.size + 1, 0, none⟩ = some (.int .i64 d)) (first | with_reducible assumption)
    (first
      | ((with_reducible (refine G1.out.mono ?_)); rintro e w1 ⟨rfl, k1d⟩; have k1 : Kp [] W w1 := kd.trans0 k1d; have S1 : w1.cell? ⟨w.heap.size, 0, none⟩ = some (.pointer (some ⟨b, 0, none⟩)) ∧ w1.cell? ⟨w.heap.size + 1, 0, none⟩ = some (.int .i64 d) := ⟨(by simp [cell_of_blk (k1.blk HB.out.1 (by simp))]), (by simp [cell_of_blk (k1.blk HB.out.2.1 (by simp))])⟩; clear k1d)
      | ((with_reducible (refine (AD.out _).mono ?_)); rintro e w2 ⟨rfl, rfl⟩))
  obtain ⟨e0, e1⟩ := S1
  have e2 : w1.cell? ⟨b, 1, none⟩ = some (.int .i64 tot) := by simp [cell_of_blk (k1.blk HB.out.2.2 (by simp))]
  have KW := hide k1
  have K1 := hide (K0.out.trans0 k1)
  clear k1 S0 kd c0 c2
  go_wp2_with fail
  go_quiet ((go_at_call 34; exact Calls.quiet_of_same (AT.out _)))
  go_wp2_with fail
  go_ret
  exact ⟨rfl, K1.out.trans0 (Kp.drewN [] _ _)⟩
set_option maxRecDepth 100000 in
set_option maxHeartbeats 16000000 in
theorem add_ok' {B : Nat} {w : World} {b n : Nat} {own : List Nat} {C : Nat → Int} (h : FAt B w b n own C) (i : Nat) (d : Int) (hd : I64 d) (hi : i < n) (hx : 0 ≤ C i + d) (ht : sumS C n + d ≤ 9223372036854775807) (hBw : B ≤ w.heap.size) :
    Calls Try.prog 16 #[.pointer (some ⟨b, 0, none⟩), .int .i64 (i : Int), .int .i64 d] w fun e w' => e = .returned (.int .i64 0) ∧ FAt B w' b n own (updC C i (C i + d)) ∧ Kp own w w' := by
  have hp := upC'
  have h' := h.keep0 (bxs_kp w b d)
  have xb : 0 ≤ C i ∧ C i ≤ 9223372036854775807 := by
    have a1 := h.nn i
    have a2 := h.sum_bd (show i + 1 ≤ n by omega)
    have a3 := h.sum_bd (show i ≤ n by omega)
    rw [sumS] at a2
    omega
  have GT := hide (fun W (kW : Kp [] (bxs w b d) W) => get_t (h'.keep0 kW) (i : Int))
  have eg : getV C n (i : Int) = C i := by unfold getV; rw [if_pos (by omega), Int.toNat_natCast]
  rw [eg] at GT
  have AD := hide (fun W => add_any (C i) d W (by unfold I64; omega) hd)
  have tb := h.sum_bd (Nat.le_refl n)
  have AT := hide (fun W => (add_any (sumS C n) d W (by unfold I64; omega) hd).mono (fun e w' (q : _ ∧ W = w') => And.intro q.1 q.2.symm))
  have gn := gv_pos (C i + d) (by omega)
  have hn := h.hn
  have SU : sumS (updC C i (C i + d)) n = sumS C n + d := by rw [sumS_upd, if_pos hi]
  have NN : ∀ j, 0 ≤ updC C i (C i + d) j := fun j => by unfold updC; split; exact hx; exact h.nn j
  have t0 : 0 ≤ sumS C n + d := by
    have := sumS_mono NN (Nat.zero_le n)
    rw [SU] at this
    exact this
  rw [ge_ok (show I64 (sumS C n + d) by unfold I64; omega), gv_ok (show I64 (sumS C n + d) by unfold I64; omega)] at AT
  have HF := hide (show ∀ j, j ≤ n → I64 (tr (updC C i (C i + d)) j) from fun j hj => by
    have a1 := tr_bd NN j
    have a2 := sumS_mono NN hj
    rw [SU] at a2
    unfold I64; omega)
  have OUT := hide (show ∀ j, n ≤ j → updC C i (C i + d) j = 0 from fun j hj => by unfold updC; rw [if_neg (by omega)]; exact h.out j hj)
  have FIN := hide (And.intro NN (And.intro SU (And.intro t0 (And.intro ht hn))))
  obtain ⟨⟨v, M0, ho0⟩, _⟩ := h
  have M := M0.keep (bxs_kp w b d) (by simp) (by simp)
  have HTR := hide (show ∀ j, j ≤ n → addL d (tr C) (hl n (n + 1) (i + 1)) j = tr (updC C i (C i + d)) j from fun j hj => addL_hl HF.out (n + 1) (i + 1) (tr C) (covers_first i) (by omega) (fun j => (trK_start C i d j).symm) j hj)
  generalize hC' : updC C i (C i + d) = C' at *
  generalize C i = x at *
  obtain ⟨tot, htot⟩ : ∃ tot, tot = sumS C n := ⟨_, rfl⟩
  rw [← htot] at AT FIN M M0
  generalize gv (x + d) = y at *
  generalize ge (x + d) = z at *
  obtain ⟨p, c, rfl⟩ := row_slice M.row
  have VM := hide (valid_m M)
  have K0 := hide (bxs_kp w b d)
  obtain ⟨b0, b1, hsz⟩ := bxs_at w b d
  have HB := hide (And.intro b0 (And.intro b1 M.blk))
  have HSZ := hide hsz
  have c2 : (bxs w b d).cell? ⟨b, 2, none⟩ = some (.slice p n c) := by simp [cell_of_blk M.blk]
  have d1 : decide ((i : Int) < 0) = false := by simp
  have d2 : decide ((n : Int) ≤ (i : Int)) = false := by simp; omega
  have d2' : decide (n ≤ i) = false := by simp; omega
  have kd : Kp [] (bxs w b d) (bxs w b d).drew := Kp.drewN [] _ 1
  have S0 : (bxs w b d).drew.cell? ⟨w.heap.size, 0, none⟩ = some (.pointer (some ⟨b, 0, none⟩)) ∧ (bxs w b d).drew.cell? ⟨w.heap.size + 1, 0, none⟩ = some (.int .i64 d) := ⟨by simp [cell_of_blk (kd.blk b0 (by simp))], by simp [cell_of_blk (kd.blk b1 (by simp))]⟩
  have G1 := hide (GT.out _ kd)
  have c0 : (bxs w b d).cell? ⟨w.heap.size, 0, none⟩ = some (.pointer (some ⟨b, 0, none⟩)) := by simp [cell_of_blk b0]
  have HM0 := hide M0
  have HM := hide M
  have HO := hide ho0
  have HI := hide hi
  have hmx : Try.prog.follows .mixedOrders = true := by kernel_rfl
  obtain ⟨tt, htt⟩ : ∃ tt, tt = tot + d := ⟨_, rfl⟩
  rw [← htt] at AT FIN
  have HTT := hide htt
  clear b0 b1 hsz M M0 ho0 eg xb hx hi GT ht tb hn SU NN t0 htot htt hC' h'
  refine callsIn_wide.1 (callsIn_of_wp_marks (n := 3) (F := Fence.wide) Try.func16 rfl trivial ?_)
  simp only [Try.ntmps16, List.size_toArray, List.length_cons, List.length_nil, Nat.reduceAdd, Nat.reduceSub, Array.replicate_succ, Array.replicate_zero, List.push_toArray, List.append_toArray, List.nil_append, List.cons_append]
  refine wpIn_wide.2 ?_
  go_wp2_with fail
  refine VM.out.mono ?_
  rintro e w' ⟨rfl, rfl⟩
  generalize bxs w b d = W at *
  go_wp2_with fail
  go_region_held3 (fun w' => w'.cell? ⟨w.heap.size, 0, none⟩ = some (.pointer (some ⟨b, 0, none⟩)) ∧ w'.cell? ⟨w.heap.size + 1, 0, none⟩ = some (.int .i64 d)) (first | with_reducible assumption)
    (first
      | ((with_reducible (refine G1.out.mono ?_)); rintro e w1 ⟨rfl, k1d⟩; have k1 : Kp [] W w1 := kd.trans0 k1d; have S1 : w1.cell? ⟨w.heap.size, 0, none⟩ = some (.pointer (some ⟨b, 0, none⟩)) ∧ w1.cell? ⟨w.heap.size + 1, 0, none⟩ = some (.int .i64 d) := ⟨(by simp [cell_of_blk (k1.blk HB.out.1 (by simp))]), (by simp [cell_of_blk (k1.blk HB.out.2.1 (by simp))])⟩; clear k1d)
      | ((with_reducible (refine (AD.out _).mono ?_)); rintro e w2 ⟨rfl, rfl⟩))
  obtain ⟨e0, e1⟩ := S1
  have e2 : w1.cell? ⟨b, 1, none⟩ = some (.int .i64 tot) := by simp [cell_of_blk (k1.blk HB.out.2.2 (by simp))]
  have KW := hide k1
  have K1 := hide (K0.out.trans0 k1)
  clear k1 S0 kd c0 c2
  go_wp2_with fail
  go_quiet ((go_at_call 34; exact Calls.quiet_of_same (AT.out _)))
  obtain ⟨W2, hW2⟩ : ∃ W2, W2 = w1.drewN nq := ⟨_, rfl⟩
  have k2 : Kp [] W W2 := by rw [hW2]; exact KW.out.trans0 (Kp.drewN [] _ _)
  rw [← hW2]
  have a0 : W2.cell? ⟨w.heap.size, 0, none⟩ = some (.pointer (some ⟨b, 0, none⟩)) := by simp [cell_of_blk (k2.blk HB.out.1 (by simp))]
  have a1 : W2.cell? ⟨b, 1, none⟩ = some (.int .i64 tot) := by simp [cell_of_blk (k2.blk HB.out.2.2 (by simp))]
  have a2 : W2.frozen? ⟨b, 1, none⟩ = false := free_of_blk (k2.blk HB.out.2.2 (by simp)) 1
  have bw0 := hide (show b ≠ w.heap.size by have := HM0.out.lt; omega)
  have a3 : (W2.setCell ⟨b, 1, none⟩ (.int .i64 tt)).cell? ⟨w.heap.size, 0, none⟩ = some (.pointer (some ⟨b, 0, none⟩)) := by rw [cell_far (by intro h; injection h with h _ _; exact bw0.out h.symm)]; exact a0
  have K2 := hide k2
  clear hW2 k2 e0 e1 e2
  go_wp2_with fail
  refine (callsIn_wide.1 (holders_in Fence.wide 2 trivial rfl ⟨b, 0, none⟩ (i : Int) _)).mono ?_
  rintro e W3 ⟨rfl, hW3⟩
  go_wp2_with fail
  have HFM := HM0.out
  obtain ⟨g, hpg, _, _, hBg⟩ := row_cell HFM.row HI.out
  subst hpg
  have hgw := (HFM.row.lt g rfl).2
  have hbw := HFM.lt
  have hgb : g ≠ b := HFM.ne g rfl
  obtain ⟨q, hq⟩ : ∃ q, q = W2.heap.size := ⟨_, rfl⟩
  have hqs := K2.out.size
  have hz2 := HSZ.out
  have e1 : (W2.setCell ⟨b, 1, none⟩ (.int .i64 tt)).heap.size = q := by simp [World.setCell, hq]
  have bk0 : (W2.setCell ⟨b, 1, none⟩ (.int .i64 tt)).heap[b]? = some (.cells #[.bool true, .int .i64 tt, .slice (some ⟨g, 0, none⟩) n c] 41 (0, 0)) := by
    rw [heap_setCell_same _ _ _ _ _ _ (K2.out.blk HB.out.2.2 (by simp))]; rfl
  have kA := (Kp.alloc (W2.setCell ⟨b, 1, none⟩ (.int .i64 tt)) (.cells #[.pointer (some ⟨b, 0, none⟩)] 24)).allocK (.cells #[.int .i64 (i : Int)] 3)
  have bk1 := kA.blk bk0 (by simp)
  have rw1 := kA.row (row_side (K2.out.row HM.out.row (by simp)) (b := b) (fun k hk => by simp [Value.ownBlock] at hk; subst hk; exact hgb) 1 (.int .i64 tt)) (by simp)
  have q0 := (Kp.alloc ((W2.setCell ⟨b, 1, none⟩ (.int .i64 tt)).alloc (.cells #[.pointer (some ⟨b, 0, none⟩)] 24)) (.cells #[.int .i64 (i : Int)] 3)).blk (heap_alloc_new (W2.setCell ⟨b, 1, none⟩ (.int .i64 tt)) (.cells #[.pointer (some ⟨b, 0, none⟩)] 24)) (by simp)
  have q1 := heap_alloc_new ((W2.setCell ⟨b, 1, none⟩ (.int .i64 tt)).alloc (.cells #[.pointer (some ⟨b, 0, none⟩)] 24)) (.cells #[.int .i64 (i : Int)] 3)
  have x0 : (((W2.setCell ⟨b, 1, none⟩ (.int .i64 tt)).alloc (.cells #[.pointer (some ⟨b, 0, none⟩)] 24)).alloc (.cells #[.int .i64 (i : Int)] 3)).heap[w.heap.size]? = some (.cells #[.pointer (some ⟨b, 0, none⟩)] 24 (0, 0)) := kA.blk (blk_set (K2.out.blk HB.out.1 (by simp)) (by omega)) (by simp)
  have x1 : (((W2.setCell ⟨b, 1, none⟩ (.int .i64 tt)).alloc (.cells #[.pointer (some ⟨b, 0, none⟩)] 24)).alloc (.cells #[.int .i64 (i : Int)] 3)).heap[w.heap.size + 1]? = some (.cells #[.int .i64 d] 2 (0, 0)) := kA.blk (blk_set (K2.out.blk HB.out.2.1 (by simp)) (by omega)) (by simp)
  have K3 : Kp [b, g] w (((W2.setCell ⟨b, 1, none⟩ (.int .i64 tt)).alloc (.cells #[.pointer (some ⟨b, 0, none⟩)] 24)).alloc (.cells #[.int .i64 (i : Int)] 3)) :=
    (((K0.out.trans0 K2.out).mono (p := [b, g]) (by simp)).put b 1 (.int .i64 tt) (.inl (by simp))).trans kA (by simp)
  rw [World.size_alloc, e1] at q1
  rw [e1] at q0
  have hs3 : (((W2.setCell ⟨b, 1, none⟩ (.int .i64 tt)).alloc (.cells #[.pointer (some ⟨b, 0, none⟩)] 24)).alloc (.cells #[.int .i64 (i : Int)] 3)).heap.size = q + 2 := by rw [World.size_alloc, World.size_alloc, e1]
  have e1' : W2.heap.size = q := hq.symm
  clear a0 a1 a2 a3 bk0 kA hW3 hq
  try rw [e1]
  try rw [e1']
  generalize ((W2.setCell ⟨b, 1, none⟩ (.int .i64 tt)).alloc (.cells #[.pointer (some ⟨b, 0, none⟩)] 24)).alloc (.cells #[.int .i64 (i : Int)] 3) = W3 at *
  have hnn := FIN.out.2.2.2.2
  refine (wpIn_wide (n := 3)).1 ?_
  refine wpIn_rangeFunc_ownF rfl (by decide) (gf := 41) (lb := #[.pointer (some ⟨q + 1, 0, none⟩), .pointer (some ⟨q, 0, none⟩)]) rfl trivial (enters_of Try.func41 (by kernel_rfl) rfl)
    (encs := encB (n := n)) (Kp := Kx W3.heap.size g) (S := fun ys => ys = hl n (n + 1) (i + 1)) (Sp := fun _ => True) (N := n + 1) (w0 := W3)
    (fun l J Jx W hW _ _ hY h0 => holders1_in Fence.wide 2 trivial rfl (by decide) l (q + 1) q b n i c (some ⟨g, 0, none⟩) hnn (Nat.le_of_lt HI.out) (Kx W3.heap.size g) (Kx.refl _ _) (fun h k => h.trans k) J Jx hY W (fun W' hk => by
      have bl : ∀ {k : Nat} {o : Obj}, W3.heap[k]? = some o → k ≠ g → W'.heap[k]? = some o := fun {k o} ho hne => (hk.block k (lt_of_blk ho) hne).trans ((hW.block k (lt_of_blk ho)).trans ho)
      exact ⟨by simp [cell_of_blk (bl q1 (by omega))], by simp [cell_of_blk (bl q0 (by omega))], by simp [cell_of_blk (bl bk1 (Ne.symm hgb))]⟩) h0)
    (fun h k => h.trans k) ?book (Below.refl _ _) (fun _ => rfl)
    (fun pre W => W.heap[b]? = some (.cells #[.bool true, .int .i64 tt, .slice (some ⟨g, 0, none⟩) n c] 41 (0, 0)) ∧ W.ownsRow B 2 1 (.slice (some ⟨g, 0, none⟩) n c) n (rowV n (trV (addL d (tr C) pre))) ∧ W.heap[w.heap.size]? = some (.cells #[.pointer (some ⟨b, 0, none⟩)] 24 (0, 0)) ∧ W.heap[w.heap.size + 1]? = some (.cells #[.int .i64 d] 2 (0, 0)) ∧ Kx W3.heap.size g W3 W)
    (fun _ _ _ => False) ?own (fun _ _ _ _ _ hs _ _ => hs) ⟨bk1, rw1, x0, x1, Kx.refl _ _ _⟩
    (fun xx => { tmps := #[.pointer (some ⟨b, 0, none⟩), .int .i64 (i : Int), .int .i64 d, .pointer (some ⟨w.heap.size, 0, none⟩), undef, .pointer (some ⟨w.heap.size + 1, 0, none⟩), .int .i64 0, .int .i64 y, .int .i64 z, .int .i64 tt, .int .i64 0, .int .i64 (xx.1 : Int), .pointer (some ⟨b, 0, none⟩), .bool true, .bool false, .int .i64 (i : Int), .bool false, .bool false, .int .i64 (i : Int), .pointer (some ⟨b, 0, none⟩), .pointer (some ⟨b, 0, none⟩), .pointer (some ⟨b, 2, none⟩), .slice (some ⟨g, 0, none⟩) n c, .int .i64 (n : Int), .bool false, .bool false, .tuple #[.int .i64 y, .int .i64 z], .pointer (some ⟨b, 0, none⟩), .int .i64 (i : Int), .int .i64 x, .int .i64 d, .tuple #[.int .i64 y, .int .i64 z], .int .i64 y, .int .i64 z, .int .i64 y, .bool false, .tuple #[.int .i64 tt, .int .i64 0], .pointer (some ⟨b, 0, none⟩), .pointer (some ⟨b, 0, none⟩), .pointer (some ⟨b, 1, none⟩), .int .i64 tot, .int .i64 d, .tuple #[.int .i64 tt, .int .i64 0], .int .i64 tt, .int .i64 0, .int .i64 0, .bool false, undef, .pointer (some ⟨b, 0, none⟩), .int .i64 tt, .pointer (some ⟨b, 0, none⟩), .pointer (some ⟨b, 1, none⟩), .pointer (some ⟨b, 0, none⟩), .int .i64 (i : Int), .func (.func 41) #[] #[.pointer (some ⟨q + 1, 0, none⟩), .pointer (some ⟨q, 0, none⟩)], .int .i64 (xx.1 : Int), undef, undef, undef, undef, undef, undef, undef, undef, undef, undef, undef], defers := [] }) ?assign ?body ?done ?stop
  case book =>
    intro W l o o' hl h _ _
    have hlt := (Array.getElem?_eq_some_iff.1 h).1
    exact Kx.grown (grownBy_putObj' W l o') (by omega) (fun r e => by cases e; exact hl)
  case own =>
    rintro pre A A' row ⟨h1, h2, h3, h4, h5⟩ hg hr
    have hr' : ∀ r, row = some r → q + 2 ≤ r := fun r e => by have := (hr r e).1; omega
    have hsz := h5.size
    refine ⟨(hg.block b (lt_of_blk h1) (fun e => by have := hr' b e.symm; omega)).trans h1, fresh_row h2 hg (fun k hk e => by simp [Value.ownBlock] at hk; have := hr' k e; omega), (hg.block _ (lt_of_blk h3) (fun e => by have := hr' _ e.symm; omega)).trans h3, (hg.block _ (lt_of_blk h4) (fun e => by have := hr' _ e.symm; omega)).trans h4, h5.trans (Kx.grown hg (by omega) (fun r e => by have := hr' r e; omega))⟩
  case assign =>
    intro l x W K hK
    unfold encB
    gi_wp2
    exact hK
  case body =>
    rintro l pre x W ⟨h1, h2, h3, h4, h5⟩ hlen
    have hx := x.2
    obtain ⟨j, hj⟩ : ∃ j, x.1 = j + 1 := ⟨x.1 - 1, by omega⟩
    have hjn : j < n := by omega
    obtain ⟨_, hpp, e1, f1, _⟩ := row_cell h2 hjn
    injection hpp with hpp; injection hpp with hpp; subst hpp
    rw [rowV_get _ hjn, show trV (addL d (tr C) pre) j = .int .i64 (addL d (tr C) pre (j + 1)) from rfl] at e1
    have HLS := hide (addL_snoc d (tr C) pre x)
    rw [hj] at HLS
    have HRW := hide (show rowV n (updV (trV (addL d (tr C) pre)) j (.int .i64 (IntKind.i64.wrap (addL d (tr C) pre (j + 1) + d)))) = rowV n (trV (addL d (tr C) (pre ++ [x]))) from rowV_congr fun m _ => by
      rw [HLS.out]
      unfold updV trV
      by_cases e : m = j
      · subst e; simp
      · rw [if_neg e]
        show _ = Value.int .i64 (if m + 1 = j + 1 then _ else _)
        rw [if_neg (by omega)])
    generalize addL d (tr C) pre (j + 1) = t at *
    have wj : IntKind.i64.wrap (((j + 1 : Nat) : Int) - 1) = (j : Int) := by rw [IntKind.wrap_i64]; omega
    obtain ⟨j1, hj1⟩ : ∃ j1, j1 = j + 1 := ⟨_, rfl⟩
    rw [← hj1] at wj
    obtain ⟨yy, hyy⟩ : ∃ yy, IntKind.i64.wrap (t + d) = yy := ⟨_, rfl⟩
    rw [hyy] at HRW
    have hxe : x.1 = j1 := by omega
    have bj : (j : Int) < (n : Int) := by omega
    rw [hxe]
    obtain ⟨wd, hwd⟩ : ∃ wd, wd = ({ W with drawn := W.drawn + 1 } : World) := ⟨_, rfl⟩
    have d1 : wd.cell? ⟨w.heap.size, 0, none⟩ = some (.pointer (some ⟨b, 0, none⟩)) := by rw [hwd]; simp [World.cell?, h3]
    have d2 : wd.cell? ⟨w.heap.size + 1, 0, none⟩ = some (.int .i64 d) := by rw [hwd]; simp [World.cell?, h4]
    have d3 : wd.cell? ⟨b, 2, none⟩ = some (.slice (some ⟨g, 0, none⟩) n c) := by rw [hwd]; simp [World.cell?, h1]
    have d4 : wd.cell? ⟨g, j, none⟩ = some (.int .i64 t) := by rw [hwd]; exact e1
    have d5 : wd.frozen? ⟨g, j, none⟩ = false := by rw [hwd]; exact f1
    have KD := hide (show Kp [] W wd by rw [hwd]; exact Kp.drewN [] W 1)
    have KO := hide (show KeepsOthers W wd by rw [hwd]; exact KeepsOthers.drew W)
    have KX := hide (show Kx W3.heap.size g W wd by rw [hwd]; exact Kx.drew W)
    have H1 := hide h1
    have H2 := hide h2
    have H3 := hide h3
    have H4 := hide h4
    have H5 := hide h5
    have N1 := hide (And.intro (show w.heap.size ≠ g by omega) (show w.heap.size + 1 ≠ g by omega))
    clear h1 h2 h3 h4 h5 e1 f1 hj hj1 hx hxe hlen HLS e1'
    gi_wp2
    refine wpIn_region_still_tail 11 hmx (by kernel_rfl) ?hno ?hnd ?_
    case hno => rintro ⟨a, w, h⟩; exact h
    case hnd =>
      intro i o ho c hc
      have hmem := Array.mem_of_getElem? ho
      simp at hmem
      rcases hmem with rfl | rfl | rfl | rfl | rfl | rfl | rfl | rfl | rfl | rfl | rfl | rfl <;> cases hc
    simp only [List.take_succ_cons, List.take_zero, List.drop_succ_cons, List.drop_zero]
    rw [← hwd]
    clear hwd
    repeat still_step
    refine wpStill_nil ?_
    go_wp2_with fail
    gi_wp2
    refine ⟨KO.out.trans (KeepsOthers.setCell _ _ _), KX.out.trans (Kx.set _ _ _), blk_set (KD.out.blk H1.out (by simp)) (Ne.symm hgb), ?_, blk_set (KD.out.blk H3.out (by simp)) N1.out.1, blk_set (KD.out.blk H4.out (by simp)) N1.out.2, H5.out.trans (KX.out.trans (Kx.set _ _ _))⟩
    rw [← HRW.out]
    exact row_putV (KD.out.row H2.out (by simp)) _ _
  case done =>
    rintro D ys W hD rfl ⟨h1, h2, h3, h4, h5⟩ hK
    have R2 := hide (show rowV n (trV (addL d (tr C) (hl n (n + 1) (i + 1)))) = rowV n (trV (tr C')) from rowV_congr fun j hj => by unfold trV; rw [HTR.out (j + 1) (by omega)])
    rw [R2.out] at h2
    go_wp2_with fail
    refine ⟨by simp, .inl ⟨_, _, rfl, run_takeDeferred hK, ?_⟩⟩
    have hgP := grownBy_putObj' W D (.deferred none)
    have hsz := h5.size
    have kP : Kx (q + 2) g W (W.putObj D (.deferred none)) := Kx.grown hgP (by omega) (fun r e => by cases e; omega)
    have h2' : (W.putObj D (.deferred none)).ownsRow B 2 1 (.slice (some ⟨g, 0, none⟩) n c) n (rowV n (trV (tr C'))) := fresh_row h2 hgP (fun k hk e => by simp [Value.ownBlock] at hk; injection e with e; omega)
    refine ⟨_, results_tmp rfl _ _ _, rfl, ⟨⟨_, ⟨?_, h2', HFM.ne, HFM.lo⟩, HO.out⟩, FIN.out.1, OUT.out, by rw [FIN.out.2.1]; exact FIN.out.2.2.2.1, hnn⟩, ?_⟩
    · rw [FIN.out.2.1]
      exact (hgP.block b (by omega) (fun e => by injection e with e; omega)).trans h1
    · rw [HO.out]
      have hown : (Value.slice (some ⟨g, 0, none⟩) n c).ownBlock.toList = [g] := rfl
      rw [hown]
      have ks := K3.size
      refine ⟨hgP.os.trans (h5.os.trans K3.os), hgP.tape.trans (h5.tape.trans K3.tape), hgP.output.trans (h5.output.trans K3.output), by have := hgP.size; omega, fun k hk ho => ?_⟩
      have hne : k ≠ b ∧ k ≠ g := by simpa using ho
      exact (hgP.block k (by omega) (fun e => by injection e with e; omega)).trans ((h5.block k (by omega) hne.2).trans (K3.block k hk ho))
  case stop =>
    rintro D c pre W _ _ h _
    exact h.elim
end Go.Proofs.Ytgcnccfmfnifbaa
