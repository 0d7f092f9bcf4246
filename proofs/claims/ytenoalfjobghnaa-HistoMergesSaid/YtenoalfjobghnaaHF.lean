/- Quantile. -/
import Derived.Test.YtenoalfjobghnaaHE
import Derived.Test.YtenoalfjobghnaaCm
set_option linter.unusedVariables false
set_option linter.unusedSimpArgs false
namespace Go.Proofs.Ytenoalfjobghnaa
open Go.RowKit

theorem buildF (a b : Int) (w : World) : (Instr.build 75 #[(0, .int .i64 a), (1, .int .i64 b)]).run Try.prog w = .ok (.agg #[.int .i64 a, .int .i64 b]) w := by kernel_rfl
set_option maxRecDepth 100000 in
set_option maxHeartbeats 4000000 in
theorem closure_q {B : Nat} {W : World} {b hb tb nb db : Nat} {vB vC : Value} {m : Nat} {V C : Nat → Int} {tot n d : Int} (M : HM B W b vB vC m V C) (hm : m ≤ 1024) (nn : ∀ i, i < m + 1 → 0 ≤ C i) (top : sumI C (m + 1) ≤ 9223372036854775807)
    (h1 : W.heap[hb]? = some (.cells #[.pointer (some ⟨b, 0, none⟩)] 24 (0, 0))) (h2 : W.heap[tb]? = some (.cells #[.int .i64 tot] 2 (0, 0))) (h3 : W.heap[nb]? = some (.cells #[.int .i64 n] 2 (0, 0))) (h4 : W.heap[db]? = some (.cells #[.int .i64 d] 2 (0, 0)))
    (t1 : 1 ≤ tot) (t2 : I64 tot) (n1 : I64 n) (d1 : 1 ≤ d) (d2 : I64 d) (i : Nat) (hi : i < m + 1) :
    Calls Try.prog 43 (#[.int .i64 (i : Int)] ++ #[.pointer (some ⟨hb, 0, none⟩), .pointer (some ⟨tb, 0, none⟩), .pointer (some ⟨nb, 0, none⟩), .pointer (some ⟨db, 0, none⟩)]) W fun e w' => e = .returned (.bool (decide (0 ≤ sgn (sumI C (i + 1) * d) (n * tot)))) ∧ Kp [] W w' := by
  obtain ⟨g, c, rfl⟩ := M.C_at
  have c1 := M.c.2
  have l1 : W.cell? ⟨hb, 0, none⟩ = some (.pointer (some ⟨b, 0, none⟩)) := by simp [cell_of_blk h1]
  have l2 : W.cell? ⟨tb, 0, none⟩ = some (.int .i64 tot) := by simp [cell_of_blk h2]
  have HB3 := hide h3
  have HB4 := hide h4
  have top' := sumI_mono nn (m + 1) (i + 1) (by omega) (Nat.le_refl _)
  have low' := sumI_nn nn (i + 1) (by omega)
  have HS : Hid (I64 (sumI C (i + 1))) := by show I64 _; unfold I64; omega
  have SX := hide (fun (W' : World) (k : Kp [] W W') => sum_t (w := W') (g := g) (off := 0) (n := i + 1) (c := c) (f := C) (fun j hj => by have := (M.keep k (by simp)).rC.cellAt j (by omega); rw [intsI_get C (show j < m + 1 by omega)] at this; simpa using this) (by omega) (fun j hj => nn j (by omega)) (by omega))
  have CQ := hide (comp_ok (sumI C (i + 1)) tot n d HS.out t2 n1 d2 t1 d1)
  have KZ := Kp.alloc (o := []) W (.cells #[.int .i64 0, .int .i64 0] 75)
  have m1 : (W.alloc (.cells #[.int .i64 0, .int .i64 0] 75)).cell? ⟨hb, 0, none⟩ = some (.pointer (some ⟨b, 0, none⟩)) := by simp [cell_of_blk (KZ.blk h1 (by simp))]
  have m2 : (W.alloc (.cells #[.int .i64 0, .int .i64 0] 75)).cell? ⟨tb, 0, none⟩ = some (.int .i64 tot) := by simp [cell_of_blk (KZ.blk h2 (by simp))]
  have m3 := (M.keep KZ (by simp)).c.2
  obtain ⟨i1, hi1⟩ : ∃ i1, i1 = i + 1 := ⟨_, rfl⟩
  rw [← hi1] at SX CQ ⊢
  have ai : (i : Int) + 1 = (i1 : Int) := by omega
  have wi : IntKind.i64.wrap (i1 : Int) = (i1 : Int) := by rw [IntKind.wrap_i64]; omega
  have q0 : (0 : Int) ≤ (i1 : Int) := by omega
  have hcap : i1 ≤ c := by
    rcases M.rC.2 with ⟨he, _⟩ | ⟨g', cap, cur, he, _, _, hnc, _⟩
    · cases he
    · injection he with _ _ h; omega
  have q1 : (i1 : Int) ≤ (c : Int) := by omega
  have hp := ptrH
  clear M nn top top' low' h1 h2 h3 h4 hm hi hi1 KZ
  generalize sumI C (i1) = s at *
  go_enter Try.func43, Try.ntmps43
  go_wp2_with fail
  have KA : Kp [] W W.drew := Kp.drewN [] W 1
  have KB : ∀ o, Kp [] W (W.alloc o).drew := fun o => (Kp.alloc _ o).trans0 (Kp.drewN [] _ 1)
  go_region_law (first | (go_simp; go_at_call 44; refine (SX.out _ (by first | exact KA | exact KB _)).mono ?_; rintro e w1 ⟨rfl, rfl⟩))
  all_goals
    clear KA KB m1 m2 m3 c1 l1 l2 SX
    have K5 : Hid (Kp [] W (W.alloc (.cells #[.int .i64 s, .int .i64 tot] 75)).drew) := (Kp.alloc _ _).trans0 (Kp.drewN [] _ 1)
    have B5 : Hid ((W.alloc (.cells #[.int .i64 s, .int .i64 tot] 75)).drew.heap[W.heap.size]? = some (.cells #[.int .i64 s, .int .i64 tot] 75 (0, 0))) := heap_alloc_new _ _
    generalize (W.alloc (.cells #[.int .i64 s, .int .i64 tot] 75)).drew = W5 at K5 B5 ⊢
    obtain ⟨z, hz⟩ : ∃ z, z = W.heap.size := ⟨_, rfl⟩
    rw [← hz] at B5 ⊢
    clear hz
    have e3 : W5.cell? ⟨nb, 0, none⟩ = some (.int .i64 n) := by have := K5.out.blk HB3.out (by simp); simp [cell_of_blk this]
    have e4 : W5.cell? ⟨db, 0, none⟩ = some (.int .i64 d) := by have := K5.out.blk HB4.out (by simp); simp [cell_of_blk this]
    have e5 : W5.cell? ⟨z, 0, none⟩ = some (.int .i64 s) := by simp [cell_of_blk B5.out]
    have e6 : W5.cell? ⟨z, 1, none⟩ = some (.int .i64 tot) := by simp [cell_of_blk B5.out]
    have bf := buildF n d
    have bf2 := buildF s tot
    go_wp2_with fail
    refine (CQ.out _).mono ?_
    rintro e w6 ⟨rfl, bb⟩
    have K6 := hide (K5.out.trans0 (Kp.of_below bb))
    clear bb e3 e4 e5 e6 bf bf2 CQ
    go_wp2_with fail
    go_ret
    exact ⟨rfl, K6.out⟩
end Go.Proofs.Ytenoalfjobghnaa
