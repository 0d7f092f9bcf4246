/- Trial. -/
import Derived.Test.YtfjmnidenoojhaaRw
import Derived.Defers
set_option linter.unusedVariables false
set_option linter.unusedSimpArgs false
namespace Go.Proofs.Ytfjmnidenoojhaa
open Go.RowKit

theorem rowsI_two {w : World} {s : Option Addr} {k k2 : IntKind} {n : Nat} {V : Nat → Nat → Int} (h : RowsI w s [k, k2] n V) {i : Nat} (hi : i < n) :
    ∃ b off, s = some ⟨b, off, none⟩ ∧ b < w.heap.size ∧ w.cell? ⟨b, off + i * 2, none⟩ = some (.int k (V i 0)) ∧ w.cell? ⟨b, off + i * 2 + 1, none⟩ = some (.int k2 (V i 1)) := by
  rcases h with h | ⟨b, off, rfl, hb, hc⟩
  · omega
  · have h0 := hc i hi 0 k rfl
    have h1 := hc i hi 1 k2 rfl
    simp at h0 h1
    exact ⟨b, off, rfl, hb, h0.1, h1.1⟩
/-- labels, and those ahead of each union, after k unions of pairs -/
def tr (L : Nat → Nat) (H : List (Nat → Nat)) (X Y : Nat → Nat) : Nat → (Nat → Nat) × List (Nat → Nat)
  | 0 => (L, H)
  | k + 1 => (uL (tr L H X Y k).1 (X k) (Y k), uH (tr L H X Y k).1 (tr L H X Y k).2 (X k) (Y k))
theorem tr_back (L : Nat → Nat) (H : List (Nat → Nat)) (X Y : Nat → Nat) : ∀ k, H.length ≤ (tr L H X Y k).2.length ∧ (tr L H X Y k).2.take H.length = H ∧ atL (tr L H X Y k).1 (tr L H X Y k).2 H.length = L := by
  intro k
  induction k with
  | zero => exact ⟨Nat.le_refl _, List.take_length, atL_last (Nat.le_refl _)⟩
  | succ k ih =>
    obtain ⟨h1, h2, h3⟩ := ih
    simp only [tr]
    generalize (tr L H X Y k).1 = l at *
    generalize (tr L H X Y k).2 = q at *
    unfold uL uH
    by_cases e : l (X k) = l (Y k)
    · rw [if_pos e, if_pos e]; exact ⟨h1, h2, h3⟩
    · rw [if_neg e, if_neg e]
      refine ⟨by simp; omega, by rw [List.take_append_of_le_length h1]; exact h2, ?_⟩
      unfold atL at h3 ⊢
      by_cases hq : H.length < q.length
      · rw [List.getElem?_append_left hq]
        rw [List.getElem?_eq_getElem hq] at h3 ⊢
        exact h3
      · have he : H.length = q.length := by omega
        rw [List.getElem?_append_right (by omega), he, Nat.sub_self]
        rw [List.getElem?_eq_none (by omega)] at h3
        exact h3
theorem build40z (w : World) : (Instr.build 40 #[]).run Try.prog w = .ok (.agg #[.int .i64 0, .int .i64 0, .int .i64 0]) w := by kernel_rfl
def rowZ : Value := .agg #[.int .i64 0, .int .i64 0, .int .i64 0]
set_option maxRecDepth 100000 in
set_option maxHeartbeats 4000000 in
theorem trial_f (p : Option Addr) (w : World) (h : bad w p) (s : Value) : Calls Try.prog 19 #[.pointer p, s] w fun e w' => e = .returned (.tuple #[rowZ, .int .i64 1]) ∧ Kp [] w w' := by
  have h' : bad (w.alloc (.cells #[.int .i64 0, .int .i64 0, .int .i64 0] 40)) p := by
    rcases h with rfl | ⟨b, rfl, hc⟩
    · exact .inl rfl
    · refine .inr ⟨b, rfl, ?_⟩
      have hlt : b < w.heap.size := by
        apply Classical.byContradiction
        intro hn
        simp [World.cell?, Array.getElem?_eq_none (by omega : w.heap.size ≤ b)] at hc
      rw [World.cell?_of_block (w := w) ((Kp.alloc (o := []) w _).block b hlt (by simp))]
      exact hc
  have v0 := hide (valid_f p _ h')
  have hb := build40z (w.alloc (.cells #[.int .i64 0, .int .i64 0, .int .i64 0] 40))
  clear h h'
  go_enter_defers Try.func19, Try.ntmps19
  go_wp2_with fail
  refine v0.out.mono ?_
  rintro e w' ⟨rfl, rfl⟩
  go_wp2_with fail
  exact ⟨.tuple #[rowZ, .int .i64 1], by simp [results, Try.results19, go_sem, rowZ], rfl, Kp.alloc _ _⟩
theorem row_u {B : Nat} {w : World} {b n : Nat} {own : List Nat} {L : Nat → Nat} {H : List (Nat → Nat)} (h : US B w b own n L H) : Calls Try.prog 43 #[.pointer (some ⟨b, 0, none⟩)] w fun e w' => e = .returned (rowV L n) ∧ Kp [] w w' := by
  obtain ⟨P, Z, R, G, vP, vS, vG, M, u, hn, ho⟩ := h
  exact row_m M u.inv hn
set_option maxRecDepth 100000 in
set_option maxHeartbeats 16000000 in
theorem trial_t {B : Nat} {w : World} {b n : Nat} {own : List Nat} {L : Nat → Nat} {H : List (Nat → Nat)} (h : US B w b own n L H) {s : Option Addr} {len cap : Nat} {V : Nat → Nat → Int} (hr : RowsI w s [.i64, .i64] len V) (hlen : len ≤ 65536) (hB : B ≤ w.heap.size) (hs : ∀ bb off sp, 0 < len → s = some ⟨bb, off, sp⟩ → bb ∉ own)
    (X Y : Nat → Nat) (ok : ∀ k, k < len → V k 0 = (X k : Int) ∧ V k 1 = (Y k : Int) ∧ X k < n ∧ Y k < n) :
    Calls Try.prog 19 #[.pointer (some ⟨b, 0, none⟩), .slice s len cap] w fun e w' => e = .returned (.tuple #[rowV (tr L H X Y len).1 n, .int .i64 0]) ∧ ∃ own', US B w' b own' n L H ∧ Kp own w w' ∧ ∀ q ∈ own', q ∈ own ∨ w.heap.size ≤ q := by
  have HH := hide h
  have HR := hide hr
  have HL := hide hlen
  have HB := hide hB
  have HO := hide ok
  have HS := hide hs
  have lt := hide h.lt
  obtain ⟨W0, hW0⟩ : ∃ W0, W0 = w.alloc (.cells #[.int .i64 0, .int .i64 0, .int .i64 0] 40) := ⟨_, rfl⟩
  have K0 : Hid (Kp [] w W0) := by rw [hW0]; exact Kp.alloc _ _
  have Q0 : Hid (W0.heap[w.heap.size]? = some (.cells #[.int .i64 0, .int .i64 0, .int .i64 0] 40 (0, 0))) := by rw [hW0]; exact heap_alloc_new _ _
  have h0 := h.keep K0.out (by simp)
  have v0 := hide (valid_u h0)
  clear h hr hlen hB ok h0 hs
  go_enter_defers Try.func19, Try.ntmps19
  go_wp2_with fail
  rw [← hW0]
  clear hW0
  refine v0.out.mono ?_
  rintro e w' ⟨rfl, rfl⟩
  go_wp2_with fail
  go_loopw [16] (fun i wr => ∃ k : Nat, k ≤ len ∧ i = .int .i64 (k : Int) ∧ Hid (Kp [] w wr) ∧ Hid (wr.heap[w.heap.size]? = some (.cells #[.int .i64 0, .int .i64 0, .int .i64 0] 40 (0, 0)))) (fun i _ => len - (intOf i).toNat)
  case atStart => exact ⟨0, Nat.zero_le _, rfl, K0, Q0⟩
  case round =>
    obtain ⟨k, hk, rfl, hK, hQ⟩ := hrel
    by_cases hlt : k < len
    · have dk : decide ((k : Int) < (len : Int)) = true := by simp; omega
      have dk' : decide (k < len) = true := by simp; omega
      obtain ⟨bb, off, rfl, hbb, cD, cI⟩ := rowsI_two HR.out hlt
      obtain ⟨o1, o2, o3, o4⟩ := HO.out k hlt
      rw [o1] at cD
      rw [o2] at cI
      have e1 : wr.cell? ⟨bb, off + k * 2, none⟩ = some (.int .i64 (X k : Int)) := by rw [World.cell?_of_block (w := w) (hK.out.block bb hbb (by simp))]; exact cD
      have e2 : wr.cell? ⟨bb, off + k * 2 + 1, none⟩ = some (.int .i64 (Y k : Int)) := by rw [World.cell?_of_block (w := w) (hK.out.block bb hbb (by simp))]; exact cI
      have ww : IntKind.i64.wrap ((k : Int) + 1) = ((k + 1 : Nat) : Int) := by have := HL.out; rw [IntKind.wrap_i64]; omega
      have KA := hide (hK.out.trans (Kp.alloc (o := []) wr (.cells #[.int .i64 (X k : Int), .int .i64 (Y k : Int)] 58)) (by simp))
      have h1 := has_u (HH.out.keep KA.out (by simp)) (X k : Int)
      have h2 := has_u (HH.out.keep KA.out (by simp)) (Y k : Int)
      rw [dec_in o3] at h1
      rw [dec_in o4] at h2
      clear o1 o2 o3 o4 cD cI
      generalize X k = x at *
      generalize Y k = y at *
      have QA : Hid ((wr.alloc (.cells #[.int .i64 (x : Int), .int .i64 (y : Int)] 58)).heap[w.heap.size]? = some (.cells #[.int .i64 0, .int .i64 0, .int .i64 0] 40 (0, 0))) := (Kp.alloc (o := []) wr _).blk hQ.out (by simp)
      go_wp2_with fail
      refine h1.mono ?_
      rintro e w' ⟨rfl, rfl⟩
      go_wp2_with fail
      refine h2.mono ?_
      rintro e w' ⟨rfl, rfl⟩
      go_wp2_with fail
      go_roundw
      case rel => exact ⟨k + 1, by omega, rfl, KA, QA⟩
      case measure => simp [intOf]; omega
    · have : k = len := by omega
      subst this
      have dk : decide ((k : Int) < (k : Int)) = false := by simp
      have dk' : decide (k < k) = false := by simp
      have h1 := HH.out.keep hK.out (by simp)
      obtain ⟨p3, c3, e3⟩ := log_c h1
      have hp := upPtr
      have H1 := hide h1
      clear h1
      go_wp2_with fail
      have O0 := hide (show ∀ q ∈ own, q ∈ own ∨ w.heap.size < q from fun q hq => .inl hq)
      have K1 : Hid (Kp own w wr) := hK.out.mono (by simp)
      obtain ⟨wo, rfl⟩ : ∃ wo : World, wo = wr := ⟨_, rfl⟩
      go_loopw [42] (fun i wr => ∃ (j : Nat) (own' : List Nat), j ≤ k ∧ i = .int .i64 (j : Int) ∧ Hid (US B wr b own' n (tr L H X Y j).1 (tr L H X Y j).2) ∧ Hid (Kp own w wr) ∧ Hid (∀ q ∈ own', q ∈ own ∨ w.heap.size < q) ∧ Hid (wr.heap[w.heap.size]? = some (.cells #[.int .i64 0, .int .i64 0, .int .i64 0] 40 (0, 0)))) (fun i _ => k - (intOf i).toNat)
      case atStart => exact ⟨0, own, Nat.zero_le _, rfl, H1, K1, O0, hQ⟩
      case round =>
        obtain ⟨j, own', hj, rfl, hU, hK2, hO, hQ2⟩ := hrel
        by_cases hlt2 : j < k
        · have dj : decide ((j : Int) < (k : Int)) = true := by simp; omega
          have dj' : decide (j < k) = true := by simp; omega
          obtain ⟨bb, off, rfl, hbb, cD, cI⟩ := rowsI_two HR.out hlt2
          obtain ⟨o1, o2, o3, o4⟩ := HO.out j hlt2
          rw [o1] at cD
          rw [o2] at cI
          have nb := HS.out _ _ _ (by omega) rfl
          have e1 : wr.cell? ⟨bb, off + j * 2, none⟩ = some (.int .i64 (X j : Int)) := by rw [World.cell?_of_block (w := w) (hK2.out.block bb hbb nb)]; exact cD
          have e2 : wr.cell? ⟨bb, off + j * 2 + 1, none⟩ = some (.int .i64 (Y j : Int)) := by rw [World.cell?_of_block (w := w) (hK2.out.block bb hbb nb)]; exact cI
          have ww : IntKind.i64.wrap ((j : Int) + 1) = ((j + 1 : Nat) : Int) := by have := HL.out; rw [IntKind.wrap_i64]; omega
          have KA : Kp [] wr (wr.alloc (.cells #[.int .i64 (X j : Int), .int .i64 (Y j : Int)] 58)) := Kp.alloc _ _
          have UA := hU.out.keep KA (by simp)
          have hq2 := lt_of_blk hQ2.out
          have QA := hide (KA.blk hQ2.out (by simp))
          have KB := hide (hK2.out.trans KA (by simp))
          have U1 := hide (unite_u UA (X j) (Y j) o3 o4 (by have := KB.out.size; have := HB.out; omega))
          have TE := hide (show tr L H X Y (j + 1) = (uL (tr L H X Y j).1 (X j) (Y j), uH (tr L H X Y j).1 (tr L H X Y j).2 (X j) (Y j)) from rfl)
          have HQL := hide hq2
          clear o1 o2 o3 o4 cD cI KA UA hU hK2 hQ2 hq2 nb
          generalize hl : (tr L H X Y j).1 = l at *
          generalize hh : (tr L H X Y j).2 = hs at *
          generalize X j = x at *
          generalize Y j = y at *
          clear hl hh
          go_wp2_with fail
          refine U1.out.mono ?_
          rintro e w2 ⟨rfl, own2, U2, k2, n2⟩
          have T1 : Hid (US B w2 b own2 n (tr L H X Y (j + 1)).1 (tr L H X Y (j + 1)).2) := by rw [TE.out]; exact U2
          have hwn : w.heap.size ∉ own' := fun hm => by
            rcases hO.out _ hm with h1 | h1
            · have := (lt.out _ h1).2; omega
            · omega
          have T2 := hide (KB.out.trans k2 (fun z hz => by
            rcases hO.out z hz with h1 | h1
            · exact .inl h1
            · exact .inr (Nat.le_of_lt h1)))
          have T3 : Hid (∀ q ∈ own2, q ∈ own ∨ w.heap.size < q) := fun q hq => by
            rcases n2 q hq with h1 | h1
            · exact hO.out q h1
            · have := HQL.out; simp at h1; right; omega
          have T4 := hide (k2.blk QA.out hwn)
          clear U2 k2 n2 hwn U1 KB QA TE
          go_wp2_with fail
          go_roundw
          case rel => exact ⟨j + 1, own2, by omega, rfl, T1, T2, T3, T4⟩
          case measure => simp [intOf]; omega
        · have : j = k := by omega
          subst this
          have dj : decide ((j : Int) < (j : Int)) = false := by simp
          have dj' : decide (j < j) = false := by simp
          obtain ⟨q1, h1⟩ : ∃ q, q = ((maxTo (sz (tr L H X Y j).1 n) n : Nat) : Int) := ⟨_, rfl⟩
          obtain ⟨q2, h2⟩ : ∃ q, q = ((roots (tr L H X Y j).1 n : Nat) : Int) := ⟨_, rfl⟩
          obtain ⟨q3, h3⟩ : ∃ q, q = ((sumTo (sz (tr L H X Y j).1 n) n : Nat) : Int) := ⟨_, rfl⟩
          have ER := hide (show rowV (tr L H X Y j).1 n = .agg #[.int .i64 q1, .int .i64 q2, .int .i64 q3] by rw [h1, h2, h3]; rfl)
          have RW := hide (row_u hU.out)
          rw [ER.out] at RW
          clear h1 h2 h3
          obtain ⟨t1, t2, t3⟩ := tr_back L H X Y j
          have TB := hide (And.intro t1 (And.intro t2 t3))
          clear t1 t2 t3
          go_wp2_with fail
          refine RW.out.mono ?_
          rintro e w2 ⟨rfl, k2⟩
          have U2 := hide (hU.out.keep k2 (by simp))
          have K2 := hide (hK2.out.trans k2 (by simp))
          have Q2 := hide (k2.blk hQ2.out (by simp))
          clear k2 RW hU hK2 hQ2
          have z0 : w2.cell? ⟨w.heap.size, 0, none⟩ = some (.int .i64 0) := by simp [cell_of_blk Q2.out]
          have z1 : w2.cell? ⟨w.heap.size, 1, none⟩ = some (.int .i64 0) := by simp [cell_of_blk Q2.out]
          have z2 : w2.cell? ⟨w.heap.size, 2, none⟩ = some (.int .i64 0) := by simp [cell_of_blk Q2.out]
          have y0 : w2.frozen? ⟨w.heap.size, 0, none⟩ = false := free_of_blk Q2.out 0
          have y1 : w2.frozen? ⟨w.heap.size, 1, none⟩ = false := free_of_blk Q2.out 1
          have y2 : w2.frozen? ⟨w.heap.size, 2, none⟩ = false := free_of_blk Q2.out 2
          go_wp2_with fail
          have r1 := heap_setCell_same w2 w.heap.size 0 _ _ (.int .i64 q1) Q2.out
          have r2 := heap_setCell_same _ w.heap.size 1 _ _ (.int .i64 q2) r1
          have r3 := heap_setCell_same _ w.heap.size 2 _ _ (.int .i64 q3) r2
          have ks : Kp [w.heap.size] w2 (((w2.setCell ⟨w.heap.size, 0, none⟩ (.int .i64 q1)).setCell ⟨w.heap.size, 1, none⟩ (.int .i64 q2)).setCell ⟨w.heap.size, 2, none⟩ (.int .i64 q3)) :=
            ((Kp.set (o := [w.heap.size]) w2 _ _ (by simp)).trans (Kp.set (o := [w.heap.size]) _ _ _ (by simp)) (fun z hz => .inl hz)).trans (Kp.set (o := [w.heap.size]) _ _ _ (by simp)) (fun z hz => .inl hz)
          have hwn : w.heap.size ∉ own' := fun hm => by
            rcases hO.out _ hm with h1 | h1
            · have := (lt.out _ h1).2; omega
            · omega
          have U3 := U2.out.keep ks (fun z hz e => by simp at e; subst e; exact hwn hz)
          have K3 := K2.out.trans ks (fun z hz => by simp at hz; subst hz; exact .inr (Nat.le_refl _))
          generalize (((w2.setCell ⟨w.heap.size, 0, none⟩ (.int .i64 q1)).setCell ⟨w.heap.size, 1, none⟩ (.int .i64 q2)).setCell ⟨w.heap.size, 2, none⟩ (.int .i64 q3)) = W3 at *
          refine leaves_cons (f := 42) (args := #[.pointer (some ⟨b, 0, none⟩), .int .i64 ((H.length : Nat) : Int)]) (by simp) (by simp [go_sem]) ?_
          refine ((roll_u U3 H.length TB.out.1 (by have := K3.size; have := HB.out; omega)).2 .returning).mono ?_
          rintro e u' w4 ⟨rfl, rfl, U4, k4⟩
          rw [TB.out.2.1, TB.out.2.2] at U4
          have r4 := k4.blk r3 hwn
          refine ⟨.tuple #[.agg #[.int .i64 q1, .int .i64 q2, .int .i64 q3], .int .i64 0], by simp [results, Try.results19, go_sem, cell_of_blk r4], by rw [ER.out], own', U4, K3.trans k4 (fun z hz => by
            rcases hO.out z hz with h1 | h1
            · exact .inl h1
            · exact .inr (Nat.le_of_lt h1)), fun q hq => by
            rcases hO.out q hq with h1 | h1
            · exact .inl h1
            · exact .inr (Nat.le_of_lt h1)⟩
def goodP (n : Nat) (V : Nat → Nat → Int) (i : Nat) : Prop := (0 ≤ V i 0 ∧ V i 0 < (n : Int)) ∧ (0 ≤ V i 1 ∧ V i 1 < (n : Int))
set_option maxRecDepth 100000 in
set_option maxHeartbeats 16000000 in
theorem trial_o {B : Nat} {w : World} {b n : Nat} {own : List Nat} {L : Nat → Nat} {H : List (Nat → Nat)} (h : US B w b own n L H) {s : Option Addr} {len cap : Nat} {V : Nat → Nat → Int} (hr : RowsI w s [.i64, .i64] len V) (hlen : len ≤ 65536)
    (no : ¬ ∀ k, k < len → goodP n V k) :
    Calls Try.prog 19 #[.pointer (some ⟨b, 0, none⟩), .slice s len cap] w fun e w' => e = .returned (.tuple #[rowZ, .int .i64 3]) ∧ Kp [] w w' := by
  have HH := hide h
  have HR := hide hr
  have HL := hide hlen
  have HO := hide no
  obtain ⟨W0, hW0⟩ : ∃ W0, W0 = w.alloc (.cells #[.int .i64 0, .int .i64 0, .int .i64 0] 40) := ⟨_, rfl⟩
  have K0 : Hid (Kp [] w W0) := by rw [hW0]; exact Kp.alloc _ _
  have Q0 : Hid (W0.heap[w.heap.size]? = some (.cells #[.int .i64 0, .int .i64 0, .int .i64 0] 40 (0, 0))) := by rw [hW0]; exact heap_alloc_new _ _
  have h0 := h.keep K0.out (by simp)
  have v0 := hide (valid_u h0)
  have A0 := hide (show ∀ i, i < 0 → goodP n V i from fun i hi => absurd hi (by omega))
  clear h hr hlen no h0
  go_enter_defers Try.func19, Try.ntmps19
  go_wp2_with fail
  rw [← hW0]
  clear hW0
  refine v0.out.mono ?_
  rintro e w' ⟨rfl, rfl⟩
  go_wp2_with fail
  go_loopw [16] (fun i wr => ∃ k : Nat, k ≤ len ∧ i = .int .i64 (k : Int) ∧ Hid (∀ i, i < k → goodP n V i) ∧ Hid (Kp [] w wr) ∧ Hid (wr.heap[w.heap.size]? = some (.cells #[.int .i64 0, .int .i64 0, .int .i64 0] 40 (0, 0)))) (fun i _ => len - (intOf i).toNat)
  case atStart => exact ⟨0, Nat.zero_le _, rfl, A0, K0, Q0⟩
  case round =>
    obtain ⟨k, hk, rfl, hA, hK, hQ⟩ := hrel
    by_cases hlt : k < len
    · have dk : decide ((k : Int) < (len : Int)) = true := by simp; omega
      have dk' : decide (k < len) = true := by simp; omega
      obtain ⟨bb, off, rfl, hbb, cD, cI⟩ := rowsI_two HR.out hlt
      have e1 : wr.cell? ⟨bb, off + k * 2, none⟩ = some (.int .i64 (V k 0)) := by rw [World.cell?_of_block (w := w) (hK.out.block bb hbb (by simp))]; exact cD
      have e2 : wr.cell? ⟨bb, off + k * 2 + 1, none⟩ = some (.int .i64 (V k 1)) := by rw [World.cell?_of_block (w := w) (hK.out.block bb hbb (by simp))]; exact cI
      have ww : IntKind.i64.wrap ((k : Int) + 1) = ((k + 1 : Nat) : Int) := by have := HL.out; rw [IntKind.wrap_i64]; omega
      have KA := hide (hK.out.trans (Kp.alloc (o := []) wr (.cells #[.int .i64 (V k 0), .int .i64 (V k 1)] 58)) (by simp))
      have QA : Hid ((wr.alloc (.cells #[.int .i64 (V k 0), .int .i64 (V k 1)] 58)).heap[w.heap.size]? = some (.cells #[.int .i64 0, .int .i64 0, .int .i64 0] 40 (0, 0))) := (Kp.alloc (o := []) wr _).blk hQ.out (by simp)
      have h1 := has_u (HH.out.keep KA.out (by simp)) (V k 0)
      have h2 := has_u (HH.out.keep KA.out (by simp)) (V k 1)
      have hb := build40z (wr.alloc (.cells #[.int .i64 (V k 0), .int .i64 (V k 1)] 58))
      have z0 : (wr.alloc (.cells #[.int .i64 (V k 0), .int .i64 (V k 1)] 58)).cell? ⟨w.heap.size, 0, none⟩ = some (.int .i64 0) := by simp [cell_of_blk QA.out]
      have z1 : (wr.alloc (.cells #[.int .i64 (V k 0), .int .i64 (V k 1)] 58)).cell? ⟨w.heap.size, 1, none⟩ = some (.int .i64 0) := by simp [cell_of_blk QA.out]
      have z2 : (wr.alloc (.cells #[.int .i64 (V k 0), .int .i64 (V k 1)] 58)).cell? ⟨w.heap.size, 2, none⟩ = some (.int .i64 0) := by simp [cell_of_blk QA.out]
      have y0 : (wr.alloc (.cells #[.int .i64 (V k 0), .int .i64 (V k 1)] 58)).frozen? ⟨w.heap.size, 0, none⟩ = false := free_of_blk QA.out 0
      have y1 : (wr.alloc (.cells #[.int .i64 (V k 0), .int .i64 (V k 1)] 58)).frozen? ⟨w.heap.size, 1, none⟩ = false := free_of_blk QA.out 1
      have y2 : (wr.alloc (.cells #[.int .i64 (V k 0), .int .i64 (V k 1)] 58)).frozen? ⟨w.heap.size, 2, none⟩ = false := free_of_blk QA.out 2
      have r1 := fun v => heap_setCell_same _ w.heap.size 0 _ _ v QA.out
      have KE : Hid (Kp [] w ((((wr.alloc (.cells #[.int .i64 (V k 0), .int .i64 (V k 1)] 58)).setCell ⟨w.heap.size, 0, none⟩ (.int .i64 0)).setCell ⟨w.heap.size, 1, none⟩ (.int .i64 0)).setCell ⟨w.heap.size, 2, none⟩ (.int .i64 0))) := ((KA.out.set_new (Nat.le_refl _) _ _).set_new (Nat.le_refl _) _ _).set_new (Nat.le_refl _) _ _
      have r1 := heap_setCell_same _ w.heap.size 0 _ _ (.int .i64 0) QA.out
      have r2 := heap_setCell_same _ w.heap.size 1 _ _ (.int .i64 0) r1
      have QE := hide (heap_setCell_same _ w.heap.size 2 _ _ (.int .i64 0) r2)
      have NA := hide (show goodP n V k → ∀ i, i < k + 1 → goodP n V i from fun hg i hi => by
        by_cases e : i = k
        · subst e; exact hg
        · exact hA.out i (by omega))
      by_cases g1 : 0 ≤ V k 0 ∧ V k 0 < (n : Int)
      · have dd1 : decide (0 ≤ V k 0 ∧ V k 0 < (n : Int)) = true := by simpa using g1
        rw [dd1] at h1
        by_cases g2 : 0 ≤ V k 1 ∧ V k 1 < (n : Int)
        · have dd2 : decide (0 ≤ V k 1 ∧ V k 1 < (n : Int)) = true := by simpa using g2
          rw [dd2] at h2
          have A1 := hide (NA.out ⟨g1, g2⟩)
          clear g1 g2 dd1 dd2 cD cI r1 r2 QE KE z0 z1 z2 y0 y1 y2 hb NA
          generalize V k 0 = x at *
          generalize V k 1 = y at *
          go_wp2_with fail
          refine h1.mono ?_
          rintro e w' ⟨rfl, rfl⟩
          go_wp2_with fail
          refine h2.mono ?_
          rintro e w' ⟨rfl, rfl⟩
          go_wp2_with fail
          go_roundw
          case rel => exact ⟨k + 1, by omega, rfl, A1, KA, QA⟩
          case measure => simp [intOf]; omega
        · have dd2 : decide (0 ≤ V k 1 ∧ V k 1 < (n : Int)) = false := by simp; omega
          rw [dd2] at h2
          clear g1 g2 dd1 dd2 cD cI r1 r2 NA
          generalize V k 0 = x at *
          generalize V k 1 = y at *
          go_wp2_with fail
          refine h1.mono ?_
          rintro e w' ⟨rfl, rfl⟩
          go_wp2_with fail
          refine h2.mono ?_
          rintro e w' ⟨rfl, rfl⟩
          go_wp2_with fail
          refine ⟨.tuple #[rowZ, .int .i64 3], by simp [results, Try.results19, go_sem, cell_of_blk QE.out, rowZ], rfl, KE.out⟩
      · have dd1 : decide (0 ≤ V k 0 ∧ V k 0 < (n : Int)) = false := by simp; omega
        rw [dd1] at h1
        clear g1 dd1 cD cI r1 r2 NA h2
        generalize V k 0 = x at *
        generalize V k 1 = y at *
        go_wp2_with fail
        refine h1.mono ?_
        rintro e w' ⟨rfl, rfl⟩
        go_wp2_with fail
        refine ⟨.tuple #[rowZ, .int .i64 3], by simp [results, Try.results19, go_sem, cell_of_blk QE.out, rowZ], rfl, KE.out⟩
    · have : k = len := by omega
      subst this
      exact absurd hA.out HO.out
end Go.Proofs.Ytfjmnidenoojhaa
