/- Bucket. -/
import Derived.Test.YtenoalfjobghnaaHB
set_option linter.unusedVariables false
set_option linter.unusedSimpArgs false
namespace Go.Proofs.Ytenoalfjobghnaa
open Go.RowKit

/-- how many of the first k bounds are not above x -/
def bk (V : Nat → Int) (x : Int) : Nat → Nat
  | 0 => 0
  | k + 1 => bk V x k + if V k ≤ x then 1 else 0
def Inc (V : Nat → Int) (m : Nat) : Prop := ∀ i j, i < j → j < m → V i < V j
theorem bk_le (V : Nat → Int) (x : Int) : ∀ k, bk V x k ≤ k := by
  intro k
  induction k with
  | zero => exact Nat.le_refl _
  | succ k ih => simp only [bk]; split <;> omega
theorem bk_all {V : Nat → Int} {x : Int} : ∀ k, (∀ i, i < k → V i ≤ x) → bk V x k = k := by
  intro k
  induction k with
  | zero => intro _; rfl
  | succ k ih => intro h; simp only [bk]; rw [ih (fun i hi => h i (by omega)), if_pos (h k (by omega))]
theorem bk_from {V : Nat → Int} {x : Int} {r : Nat} : ∀ k, (∀ i, i < r → V i ≤ x) → (∀ i, r ≤ i → i < r + k → x < V i) → bk V x (r + k) = r := by
  intro k
  induction k with
  | zero => intro h _; exact bk_all r h
  | succ k ih =>
    intro h1 h2
    show bk V x (r + k) + _ = r
    rw [ih h1 (fun i a b => h2 i a (by omega)), if_neg (by have := h2 (r + k) (by omega) (by omega); exact Int.not_le.2 this)]
    rfl
theorem bk_eq {V : Nat → Int} {x : Int} {m r : Nat} (hr : r ≤ m) (h1 : ∀ i, i < r → V i ≤ x) (h2 : ∀ i, r ≤ i → i < m → x < V i) : bk V x m = r := by
  obtain ⟨k, rfl⟩ : ∃ k, m = r + k := ⟨m - r, by omega⟩
  exact bk_from k h1 h2
set_option maxRecDepth 100000 in
set_option maxHeartbeats 2000000 in
theorem closure_b {B : Nat} {W : World} {b hb xb : Nat} {vB vC : Value} {m : Nat} {V C : Nat → Int} {x : Int} (M : HM B W b vB vC m V C) (h1 : W.cell? ⟨hb, 0, none⟩ = some (.pointer (some ⟨b, 0, none⟩))) (h2 : W.cell? ⟨xb, 0, none⟩ = some (.int .i64 x)) (i : Nat) (hi : i < m) :
    Calls Try.prog 42 (#[.int .i64 (i : Int)] ++ #[.pointer (some ⟨hb, 0, none⟩), .pointer (some ⟨xb, 0, none⟩)]) W fun e w' => e = .returned (.bool (decide (x < V i))) ∧ Kp [] W w' := by
  obtain ⟨p, c, rfl⟩ := row_slice M.rB
  obtain ⟨g, rfl⟩ := rowSome M.rB (by omega)
  have c0 := M.c.1
  have e1 := M.rB.cellAt i (by omega)
  rw [intsI_get V hi] at e1
  have hp := ptrH
  have hi' : (i : Int) < (m : Int) := by omega
  clear M
  generalize V i = y at *
  go_enter Try.func42, Try.ntmps42
  go_wp2_with fail
  go_quiet (fail)
  go_wp2_with fail
  go_ret
  exact ⟨rfl, Kp.drewN _ _ _⟩
set_option maxRecDepth 100000 in
set_option maxHeartbeats 4000000 in
theorem bucket_t {B : Nat} {w : World} {b : Nat} {vB vC : Value} {m : Nat} {V C : Nat → Int} (M : HM B w b vB vC m V C) (hm : m ≤ 1024) (inc : Inc V m) (x : Int) :
    Calls Try.prog 20 #[.pointer (some ⟨b, 0, none⟩), .int .i64 x] w fun e w' => e = .returned (.int .i64 ((bk V x m : Nat) : Int)) ∧ Kp [] w w' := by
  have HM0 := hide M
  have HI := hide inc
  have HN := hide hm
  have hmf : ∀ (fn : Fn) (first cap : Array Value) (w : World), (Instr.makeFunc fn first cap).run Try.prog w = .ok (.func fn first cap) w := fun _ _ _ _ => rfl
  have hp := ptrH
  clear M inc hm
  go_enter Try.func20, Try.ntmps20
  go_wp2_with fail
  obtain ⟨W2, hW2⟩ : ∃ W2, W2 = (w.alloc (.cells #[.pointer (some ⟨b, 0, none⟩)] 24)).alloc (.cells #[.int .i64 x] 2) := ⟨_, rfl⟩
  have K2 : Hid (Kp [] w W2) := by rw [hW2]; exact (Kp.alloc (o := []) _ _).trans (Kp.alloc (o := []) _ _) (by simp)
  have b1 : Hid (W2.heap[w.heap.size]? = some (.cells #[.pointer (some ⟨b, 0, none⟩)] 24 (0, 0))) := by rw [hW2]; exact (Kp.alloc (o := []) _ _).blk (heap_alloc_new _ _) (by simp)
  have b2 : Hid (W2.heap[w.heap.size + 1]? = some (.cells #[.int .i64 x] 2 (0, 0))) := by
    rw [hW2]
    have := heap_alloc_new (w.alloc (.cells #[.pointer (some ⟨b, 0, none⟩)] 24)) (.cells #[.int .i64 x] 2)
    rw [show (w.alloc (.cells #[.pointer (some ⟨b, 0, none⟩)] 24)).heap.size = w.heap.size + 1 by simp] at this
    exact this
  rw [← hW2]
  clear hW2
  obtain ⟨z, hz⟩ : ∃ z, z = w.heap.size + 1 := ⟨_, rfl⟩
  rw [← hz] at b2 ⊢
  generalize w.heap.size = y at b1 ⊢
  have M2 := hide (HM0.out.keep K2.out (by simp))
  obtain ⟨g, c, rfl⟩ := M2.out.C_at
  obtain ⟨p, cb, rfl⟩ := row_slice M2.out.rB
  have c0 := M2.out.c.1
  have c1 := M2.out.c.2
  have v0 := hide (valid_t c1)
  have l1 : W2.cell? ⟨y, 0, none⟩ = some (.pointer (some ⟨b, 0, none⟩)) := by simp [cell_of_blk b1.out]
  have S := hide (search_t (w := W2) (n := m) (k := 42) (cap := #[.pointer (some ⟨y, 0, none⟩), .pointer (some ⟨z, 0, none⟩)]) (P := fun i => decide (x < V i)) enters_b (by have := HN.out; omega)
    (fun i j hij hj hi => by
      simp at hi ⊢
      rcases Nat.lt_or_ge i j with h | h
      · exact Int.lt_trans hi (HI.out i j h hj)
      · rw [show j = i by omega]; exact hi)
    (fun W k i hi => closure_b (M2.out.keep k (by simp)) (by have := k.blk b1.out (by simp); simp [cell_of_blk this]) (by have := k.blk b2.out (by simp); simp [cell_of_blk this]) i hi))
  clear hz c1
  refine v0.out.mono ?_
  rintro e w' ⟨rfl, rfl⟩
  clear v0
  go_wp2_with fail
  refine S.out.mono ?_
  rintro e w3 ⟨r, rfl, r1, r2, r3, k3⟩
  have E : bk V x m = r := bk_eq r1 (fun i hi => by have := r2 i hi; simp at this; exact this) (fun i h1 h2 => by have := r3 i h1 h2; simpa using this)
  have K3 := hide (K2.out.trans k3 (by simp))
  subst E
  clear r1 r2 r3 k3 S
  go_wp2_with fail
  go_ret
  exact ⟨rfl, K3.out⟩
theorem bucket_f (p : Option Addr) (w : World) (x : Int) (hv : ∀ W, Kp [] w W → Calls Try.prog 38 #[.pointer p] W fun e w' => e = .returned (.bool false) ∧ W = w') :
    Calls Try.prog 20 #[.pointer p, .int .i64 x] w fun e w' => e = .returned (.int .i64 0) ∧ Kp [] w w' := by
  have H := hide hv
  clear hv
  go_enter Try.func20, Try.ntmps20
  go_wp2_with fail
  have K2 := hide ((Kp.alloc (o := []) w (.cells #[.pointer p] 24)).trans (Kp.alloc (o := []) _ (.cells #[.int .i64 x] 2)) (by simp))
  refine (H.out _ K2.out).mono ?_
  rintro e w' ⟨rfl, rfl⟩
  go_wp2_with fail
  go_ret
  exact ⟨rfl, K2.out⟩
end Go.Proofs.Ytenoalfjobghnaa
