/- Quantile, itself. -/
import Derived.Test.YtenoalfjobghnaaHF
set_option linter.unusedVariables false
set_option linter.unusedSimpArgs false
namespace Go.Proofs.Ytenoalfjobghnaa
open Go.RowKit

/-- whether the counts up to bucket i are enough for n/d of the total -/
def enough (C : Nat → Int) (n d tot : Int) (i : Nat) : Bool := decide (0 ≤ sgn (sumI C (i + 1) * d) (n * tot))
theorem enough_mono {C : Nat → Int} {n d tot : Int} {m : Nat} (nn : ∀ i, i < m + 1 → 0 ≤ C i) (hd : 1 ≤ d) (i j : Nat) (hij : i ≤ j) (hj : j < m) (h : enough C n d tot i = true) : enough C n d tot j = true := by
  unfold enough at h ⊢
  have h1 := sumI_mono nn (j + 1) (i + 1) (by omega) (by omega)
  have h2 := Int.mul_le_mul_of_nonneg_right h1 (show (0 : Int) ≤ d by omega)
  unfold sgn at h ⊢
  by_cases q : sumI C (i + 1) * d < n * tot
  · rw [if_pos q] at h; simp at h
  · have q' : ¬ sumI C (j + 1) * d < n * tot := by omega
    rw [if_neg q']
    split <;> simp
set_option maxRecDepth 100000 in
set_option maxHeartbeats 4000000 in
theorem quantile_t {B : Nat} {w : World} {b : Nat} {vB vC : Value} {m : Nat} {V C : Nat → Int} {n d : Int} (M : HM B w b vB vC m V C) (hm : m ≤ 1024) (nn : ∀ i, i < m + 1 → 0 ≤ C i) (top : sumI C (m + 1) ≤ 9223372036854775807)
    (n0 : 0 ≤ n) (d0 : 1 ≤ d) (nd : n ≤ d) (n1 : I64 n) (d1 : I64 d) (tp : 0 < sumI C (m + 1)) :
    Calls Try.prog 23 #[.pointer (some ⟨b, 0, none⟩), .int .i64 n, .int .i64 d] w fun e w' => ∃ r : Nat, e = .returned (.tuple #[.int .i64 (r : Int), .int .i64 0]) ∧ r ≤ m ∧ (∀ i, i < r → enough C n d (sumI C (m + 1)) i = false) ∧ (∀ i, r ≤ i → i < m → enough C n d (sumI C (m + 1)) i = true) ∧ Kp [] w w' := by
  have HM0 := hide M
  have HF := hide (And.intro hm (And.intro nn (And.intro top (And.intro n1 (And.intro d1 (And.intro d0 tp))))))
  have hmf : ∀ (fn : Fn) (first cap : Array Value) (w : World), (Instr.makeFunc fn first cap).run Try.prog w = .ok (.func fn first cap) w := fun _ _ _ _ => rfl
  have hp := ptrH
  have e1 : decide (n < 0) = false := by simp; omega
  have e2 : decide (d < 1) = false := by simp; omega
  have e3 : decide (d < n) = false := by simp; omega
  clear M hm nn top n0 d0 nd n1 d1 tp
  go_enter Try.func23, Try.ntmps23
  go_wp2_with fail
  obtain ⟨W3, hW3⟩ : ∃ W3, W3 = ((w.alloc (.cells #[.pointer (some ⟨b, 0, none⟩)] 24)).alloc (.cells #[.int .i64 n] 2)).alloc (.cells #[.int .i64 d] 2) := ⟨_, rfl⟩
  have s1 : (w.alloc (.cells #[.pointer (some ⟨b, 0, none⟩)] 24)).heap.size = w.heap.size + 1 := by simp
  have s2 : ((w.alloc (.cells #[.pointer (some ⟨b, 0, none⟩)] 24)).alloc (.cells #[.int .i64 n] 2)).heap.size = w.heap.size + 1 + 1 := by simp
  have K3 : Hid (Kp [] w W3) := by rw [hW3]; exact ((Kp.alloc _ _).allocK _).allocK _
  have b1 : Hid (W3.heap[w.heap.size]? = some (.cells #[.pointer (some ⟨b, 0, none⟩)] 24 (0, 0))) := by rw [hW3]; exact (Kp.alloc (o := []) _ _).blk ((Kp.alloc (o := []) _ _).blk (heap_alloc_new _ _) (by simp)) (by simp)
  have b2 : Hid (W3.heap[w.heap.size + 1]? = some (.cells #[.int .i64 n] 2 (0, 0))) := by
    rw [hW3, ← s1]; exact (Kp.alloc (o := []) _ _).blk (heap_alloc_new _ _) (by simp)
  have b3 : Hid (W3.heap[w.heap.size + 1 + 1]? = some (.cells #[.int .i64 d] 2 (0, 0))) := by
    rw [hW3, ← s2]; exact heap_alloc_new _ _
  rw [← hW3]
  clear hW3 s1 s2
  obtain ⟨y3, hy3⟩ : ∃ z, z = w.heap.size + 1 + 1 := ⟨_, rfl⟩
  obtain ⟨y2, hy2⟩ : ∃ z, z = w.heap.size + 1 := ⟨_, rfl⟩
  rw [← hy3] at b3 ⊢
  rw [← hy2] at b2 ⊢
  clear hy2 hy3
  generalize w.heap.size = y1 at b1 ⊢
  have M3 := hide (HM0.out.keep K3.out (by simp))
  obtain ⟨g, c, rfl⟩ := M3.out.C_at
  have c1 := M3.out.c.2
  have v0 := hide (valid_t c1)
  have l1 : W3.cell? ⟨y1, 0, none⟩ = some (.pointer (some ⟨b, 0, none⟩)) := by simp [cell_of_blk b1.out]
  have l2 : W3.cell? ⟨y2, 0, none⟩ = some (.int .i64 n) := by simp [cell_of_blk b2.out]
  have l3 : W3.cell? ⟨y3, 0, none⟩ = some (.int .i64 d) := by simp [cell_of_blk b3.out]
  have T := hide (total_t M3.out HF.out.1 HF.out.2.1 HF.out.2.2.1)
  refine v0.out.mono ?_
  rintro e w' ⟨rfl, rfl⟩
  clear v0
  go_wp2_with fail
  refine T.out.mono ?_
  rintro e w' ⟨rfl, rfl⟩
  obtain ⟨tot, ht⟩ : ∃ t, t = sumI C (m + 1) := ⟨_, rfl⟩
  have HT := hide ht
  rw [← ht]
  have q1 : (tot == 0) = false := by have := HF.out.2.2.2.2.2.2; simp; omega
  clear ht T c1 l1 l2 l3
  obtain ⟨W4, hW4⟩ : ∃ W4, W4 = W3.alloc (.cells #[.int .i64 tot] 2) := ⟨_, rfl⟩
  have k4 : Kp [] W3 W4 := by rw [hW4]; exact Kp.alloc _ _
  have B1 := hide (k4.blk b1.out (by simp)); have B2 := hide (k4.blk b2.out (by simp)); have B3 := hide (k4.blk b3.out (by simp))
  have B4 : Hid (W4.heap[W3.heap.size]? = some (.cells #[.int .i64 tot] 2 (0, 0))) := by rw [hW4]; exact heap_alloc_new _ _
  have M4 := hide (M3.out.keep k4 (by simp))
  have K4 := hide (K3.out.trans0 k4)
  have l4 : (W3.alloc (.cells #[.int .i64 tot] 2)).cell? ⟨W3.heap.size, 0, none⟩ = some (.int .i64 tot) := by rw [← hW4]; simp [cell_of_blk B4.out]
  have l1 : (W3.alloc (.cells #[.int .i64 tot] 2)).cell? ⟨y1, 0, none⟩ = some (.pointer (some ⟨b, 0, none⟩)) := by rw [← hW4]; simp [cell_of_blk B1.out]
  have c1 : (W3.alloc (.cells #[.int .i64 tot] 2)).cell? ⟨b, 1, none⟩ = some (.slice (some ⟨g, 0, none⟩) (m + 1) c) := by rw [← hW4]; exact M4.out.c.2
  have wm : IntKind.i64.wrap ((m : Int) + 1 - 1) = (m : Int) := by have := HF.out.1; rw [IntKind.wrap_i64]; omega
  have wm' : (m : Int) + 1 - 1 = (m : Int) := by omega
  have wm2 : IntKind.i64.wrap (m : Int) = (m : Int) := by have := HF.out.1; rw [IntKind.wrap_i64]; omega
  have HW4 := hide hW4
  have S := hide (search_t (w := W4) (n := m) (k := 43) (cap := #[.pointer (some ⟨y1, 0, none⟩), .pointer (some ⟨W3.heap.size, 0, none⟩), .pointer (some ⟨y2, 0, none⟩), .pointer (some ⟨y3, 0, none⟩)]) (P := enough C n d tot) enters_q (by have := HF.out.1; omega)
    (fun i j hij hj h => enough_mono HF.out.2.1 HF.out.2.2.2.2.2.1 i j hij hj h)
    (fun W k i hi => closure_q (M4.out.keep k (by simp)) HF.out.1 HF.out.2.1 HF.out.2.2.1 (k.blk B1.out (by simp)) (k.blk B4.out (by simp)) (k.blk B2.out (by simp)) (k.blk B3.out (by simp)) (by have := HF.out.2.2.2.2.2.2; have := HT.out; omega) (by have := HF.out.2.2.2.2.2.2; have := HF.out.2.2.1; have := HT.out; unfold I64; omega) HF.out.2.2.2.1 HF.out.2.2.2.2.2.1 HF.out.2.2.2.2.1 i (by omega)))
  rw [hW4] at S
  clear hW4 k4
  go_wp2_with fail
  refine S.out.mono ?_
  rintro e w5 ⟨r, rfl, r1, r2, r3, k5⟩
  have K5 := hide (K4.out.trans0 (by rw [HW4.out]; exact k5))
  have R := hide (And.intro r1 (And.intro r2 r3))
  clear r1 r2 r3 k5 S l1 l4 c1
  go_wp2_with fail
  go_ret2
  exact ⟨r, rfl, R.out.1, by rw [← HT.out]; exact R.out.2.1, by rw [← HT.out]; exact R.out.2.2, K5.out⟩
end Go.Proofs.Ytenoalfjobghnaa
