/- Labels; sets after the unions of a list. -/
import Derived.Test.YtgnifimibonbjaaE
import Derived.Test.YtgnifimibonbjaaOp
import Derived.WalkMore
import Derived.StillTailTactics
set_option linter.unusedVariables false
set_option linter.unusedSimpArgs false
namespace Go.Proofs.Ytgnifimibonbjaa
open Go.RowKit

theorem rowsI_two {w : World} {s : Option Addr} {k k2 : IntKind} {n : Nat} {V : Nat → Nat → Int} (h : RowsI w s [k, k2] n V) {i : Nat} (hi : i < n) :
    ∃ b off, s = some ⟨b, off, none⟩ ∧ b < w.heap.size ∧ w.cell? ⟨b, off + i * 2, none⟩ = some (.int k (V i 0)) ∧ w.cell? ⟨b, off + i * 2 + 1, none⟩ = some (.int k2 (V i 1)) := by
  rcases h with h | ⟨b, off, rfl, hb, hc⟩
  · omega
  · have h0 := hc i hi 0 k rfl
    have h1 := hc i hi 1 k2 rfl
    simp at h0 h1
    exact ⟨b, off, rfl, hb, h0.1, h1.1⟩
def upto (L : Nat → Nat) (k : Nat) : Nat → Nat := fun i => if i < k then L i else 0
theorem upto_next (n k : Nat) (L : Nat → Nat) : intsF n (upd (upto L k) k (L k)) = intsF n (upto L (k + 1)) := by
  apply intsF_congr
  intro i hi
  unfold upd upto
  by_cases e : i = k
  · subst e; simp
  · have : i < k ↔ i < k + 1 := by omega
    simp [e, this]
set_option maxRecDepth 100000 in
set_option maxHeartbeats 4000000 in
theorem labels_t {B : Nat} {w : World} {b n : Nat} {own : List Nat} {L : Nat → Nat} (h : DAt B w b own n L) :
    Calls Try.prog 25 #[.pointer (some ⟨b, 0, none⟩)] w fun e w' => e = .returned (.slice (some ⟨w.heap.size, 0, none⟩) n n) ∧ w'.ownsRow w.heap.size 3 1 (.slice (some ⟨w.heap.size, 0, none⟩) n n) n (intsF n L) ∧ DAt B w' b own n L ∧ Kp own w w' := by
  have h1 : n ≤ 65536 := h.good.1
  have hmk : ∀ w : World, (Instr.makeSlice 42 (.int .i64 (n : Int)) (.int .i64 (n : Int))).run Try.prog w = .ok (.slice (some ⟨w.heap.size, 0, none⟩) n n) (w.alloc (.cells (madeCells #[.int .i64 0] n) 3)) :=
    fun w => run_make_row' 42 3 (.int .i64 0) 8 Try.underlying42 info3 rfl .i64 .i64 n (by omega) (by omega) w
  have v0 := valid_of h
  have HD := hide (h.keep (Kp.alloc (o := []) w (.cells (madeCells #[.int .i64 0] n) 3)) (by simp))
  have HR := hide (made_row w (Nat.le_refl _) n h1)
  have HK := hide (Kp.alloc (o := own) w (.cells (madeCells #[.int .i64 0] n) 3))
  have HLT := hide (fun x hx => (h.lt x hx).2)
  have HN := hide h1
  obtain ⟨vP, vS, P, Z, M, _⟩ := h
  obtain ⟨c0, c1, c2, c3⟩ := M.c
  obtain ⟨p, c, rfl⟩ := row_slice M.P
  clear M c0 c1 c3 h1
  go_enter Try.func25, Try.ntmps25
  go_wp2_with fail
  refine v0.mono ?_
  rintro e w' ⟨rfl, rfl⟩
  go_wp2_with fail
  generalize hW : w.alloc (.cells (madeCells #[.int .i64 0] n) 3) = W at *
  clear hmk v0 hW
  go_loopw [16] (fun x wr => ∃ k : Nat, k ≤ n ∧ x = .int .i64 (k : Int) ∧ Hid (DAt B wr b own n L) ∧ Hid (wr.ownsRow w.heap.size 3 1 (.slice (some ⟨w.heap.size, 0, none⟩) n n) n (intsF n (upto L k))) ∧ Hid (Kp own w wr)) (fun x _ => n - (intOf x).toNat)
  case atStart => exact ⟨0, by omega, rfl, HD, by rw [show upto L 0 = fun _ => 0 from funext fun i => by simp [upto]]; exact HR, HK⟩
  case round =>
    obtain ⟨k, hk, rfl, hD, hR, hK⟩ := hrel
    by_cases hkn : k < n
    · have dk : decide ((k : Int) < (n : Int)) = true := by simp; omega
      have R1 := hide (root_t hD.out k hkn)
      have ww : IntKind.i64.wrap ((k : Int) + 1) = ((k + 1 : Nat) : Int) := by have := HN.out; rw [IntKind.wrap_i64]; omega
      go_wp2_with fail
      refine R1.out.mono ?_
      rintro e w1 ⟨rfl, g1, k1⟩
      have fr := hR.out
      have fr1 := k1.row fr (fun x hx ho => by simp [Value.ownBlock] at hx; have := HLT.out x ho; omega)
      obtain ⟨_, hpp, e1, f1, _⟩ := row_cell fr1 hkn
      injection hpp with hpp; injection hpp with hpp; subst hpp
      rw [intsF_get _ hkn] at e1
      have q1 := row_put fr1 k (.int .i64 ((L k : Nat) : Int))
      rw [intsF_set, upto_next] at q1
      have NR := hide q1
      have ND := hide (g1.keep (Kp.set (o := [w.heap.size]) w1 ⟨w.heap.size, k, none⟩ (.int .i64 ((L k : Nat) : Int)) (by simp)) (fun x hx ho => by simp at ho; have := HLT.out x hx; omega))
      have KK := hK.out.trans k1 (fun x hx => .inl hx)
      have NK := hide (KK.trans (Kp.set (o := [w.heap.size]) w1 ⟨w.heap.size, k, none⟩ (.int .i64 ((L k : Nat) : Int)) (by simp)) (fun x hx => .inr (by simp at hx; omega)))
      clear g1 k1 fr fr1 q1 KK R1 hD hR hK
      generalize L k = lk at *
      go_wp2_with fail
      go_roundw
      case rel => exact ⟨k + 1, by omega, rfl, ND, NR, NK⟩
      case measure => simp [intOf]; omega
    · have : k = n := by omega
      subst this
      have dk : decide ((k : Int) < (k : Int)) = false := by simp
      go_wp2_with fail
      go_ret
      refine ⟨rfl, ?_, hD.out, hK.out⟩
      have := hR.out
      rw [intsF_congr (g := L) (fun i hi => by simp [upto, hi])] at this
      exact this
set_option maxRecDepth 100000 in
set_option maxHeartbeats 4000000 in
theorem small_t (a : Int) (s : Option Addr) (len cap : Nat) (w : World) (hl : len ≤ maxLen) :
    Calls Try.prog 27 #[.int .i64 a, .slice s len cap] w fun e w' => e = .returned (.bool (decide (0 ≤ a ∧ a ≤ 300 ∧ len ≤ 300))) ∧ w = w' := by
  by_cases h1 : 0 ≤ a
  · by_cases h2 : a ≤ 300
    · have d2 : decide (a ≤ 300) = true := by simpa using h2
      by_cases h3 : len ≤ 300
      · have d : decide (0 ≤ a ∧ a ≤ 300 ∧ len ≤ 300) = true := by simp; omega
        rw [d]
        go_enter Try.func27, Try.ntmps27
        go_wp2_with fail
        go_ret
        exact ⟨by simp; omega, rfl⟩
      · have d : decide (0 ≤ a ∧ a ≤ 300 ∧ len ≤ 300) = false := by simp; omega
        rw [d]
        go_enter Try.func27, Try.ntmps27
        go_wp2_with fail
        go_ret
        exact ⟨by simp; omega, rfl⟩
    · have d : decide (0 ≤ a ∧ a ≤ 300 ∧ len ≤ 300) = false := by simp; omega
      rw [d]
      go_enter Try.func27, Try.ntmps27
      go_wp2_with fail
      go_ret
      exact ⟨by simp; try omega, rfl⟩
  · have d : decide (0 ≤ a ∧ a ≤ 300 ∧ len ≤ 300) = false := by simp; omega
    rw [d]
    go_enter Try.func27, Try.ntmps27
    go_wp2_with fail
    go_ret
    exact ⟨rfl, rfl⟩
set_option maxRecDepth 100000 in
set_option maxHeartbeats 4000000 in
theorem united_t (n : Nat) (hn : n ≤ 65536) (s : Option Addr) (len cap : Nat) (V : Nat → Nat → Int) (w : World) (hr : RowsI w s [.i64, .i64] len V) (hl : len ≤ 65536) :
    Calls Try.prog 28 #[.int .i64 (n : Int), .slice s len cap] w fun e w' => ∃ b own L, e = .returned (.pointer (some ⟨b, 0, none⟩)) ∧ DAt w.heap.size w' b own n L ∧ Uni n V len L ∧ (∀ x ∈ own, w.heap.size ≤ x) ∧ Kp [] w w' := by
  have N := new_t (B := w.heap.size) n hn w (Nat.le_refl _)
  have HR := hide hr
  have HL := hide hl
  clear hr hl hn
  go_enter Try.func28, Try.ntmps28
  go_wp2_with fail
  refine N.mono ?_
  rintro e w1 ⟨b, own, rfl, h1, ho, k1⟩
  have H1 := hide h1
  have HO := hide ho
  have K1 := hide k1
  clear h1 ho k1 N
  go_wp2_with fail
  go_loopw [7] (fun x wr => ∃ (k : Nat) (L : Nat → Nat), k ≤ len ∧ x = .int .i64 (k : Int) ∧ Hid (DAt w.heap.size wr b own n L) ∧ Hid (Uni n V k L) ∧ Hid (Kp [] w wr)) (fun x _ => len - (intOf x).toNat)
  case atStart => exact ⟨0, _, by omega, rfl, H1, Uni.start n V, K1⟩
  case round =>
    obtain ⟨k, L, hk, rfl, hD, hU, hK⟩ := hrel
    by_cases hkn : k < len
    · have dk : decide ((k : Int) < (len : Int)) = true := by simp; omega
      have ww : IntKind.i64.wrap ((k : Int) + 1) = ((k + 1 : Nat) : Int) := by have := HL.out; rw [IntKind.wrap_i64]; omega
      obtain ⟨bb, off, rfl, hbb, cD, cI⟩ := rowsI_two HR.out hkn
      have HB := hide hbb
      go_wp2_with fail
      refine wp_region_still_tail 11 (by kernel_rfl) (by kernel_rfl) ?_
      simp only [List.take_succ_cons, List.take_zero, List.drop_succ_cons, List.drop_zero]
      generalize hwd : ({ wr with drawn := wr.drawn + 1 } : World) = wd
      have KD : Kp [] wr wd := by rw [← hwd]; exact ⟨rfl, rfl, rfl, Nat.le_refl _, fun _ _ _ => rfl⟩
      have KW := hK.out.trans KD (by simp)
      have cD1 : wd.cell? ⟨bb, off + k * 2, none⟩ = some (.int .i64 (V k 0)) := by rw [World.cell?_of_block (w := w) (KW.block bb hbb (by simp))]; exact cD
      have cI1 : wd.cell? ⟨bb, off + k * 2 + 1, none⟩ = some (.int .i64 (V k 1)) := by rw [World.cell?_of_block (w := w) (KW.block bb hbb (by simp))]; exact cI
      have U := hide (union_t (hD.out.keep KD (by simp)) (V k 0) (V k 1))
      have HW := hide KW
      have UN : Hid (∀ L', ((¬ (inr n (V k 0) ∧ inr n (V k 1)) ∧ L' = L) ∨ (inr n (V k 0) ∧ inr n (V k 1) ∧ L (V k 0).toNat = L (V k 1).toNat ∧ L' = L) ∨ (inr n (V k 0) ∧ inr n (V k 1) ∧ L (V k 0).toNat ≠ L (V k 1).toNat ∧ L' = jn L (L (V k 0).toNat) (L (V k 1).toNat))) → Uni n V (k + 1) L') := by
        rintro L' (⟨h, rfl⟩ | ⟨a, c, d, rfl⟩ | ⟨a, c, d, rfl⟩)
        · exact hU.out.skip (fun a c => absurd ⟨a, c⟩ h)
        · exact hU.out.skip (fun _ _ => d)
        · exact hU.out.unite a c d
      clear cD cI hwd KD KW hD hU hK hbb
      generalize V k 0 = x at *
      generalize V k 1 = y at *
      repeat still_step
      refine wpStill_nil ?_
      go_wp2_with fail
      refine U.out.mono ?_
      rintro e w2 ⟨u, er, L', rfl, h2, k2, hc⟩
      have H2 := hide h2
      have K2 := hide (HW.out.trans k2 (fun z hz => .inr (HO.out z hz)))
      have U2 := hide (UN.out L' (by rcases hc with ⟨a, _, _, c⟩ | ⟨a, c, d, _, _, e⟩ | ⟨a, c, d, _, _, e⟩; exact .inl ⟨a, c⟩; exact .inr (.inl ⟨a, c, d, e⟩); exact .inr (.inr ⟨a, c, d, e⟩)))
      clear h2 k2 hc U UN
      go_wp2_with fail
      go_roundw
      case rel => exact ⟨k + 1, L', by omega, rfl, H2, U2, K2⟩
      case measure => simp [intOf]; omega
    · have : k = len := by omega
      subst this
      have dk : decide ((k : Int) < (k : Int)) = false := by simp
      go_wp2_with fail
      go_ret
      exact ⟨b, own, L, rfl, hD.out, hU.out, HO.out, hK.out⟩
end Go.Proofs.Ytgnifimibonbjaa
