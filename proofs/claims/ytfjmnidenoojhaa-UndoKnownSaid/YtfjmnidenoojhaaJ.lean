/- Labels. -/
import Derived.Test.YtfjmnidenoojhaaH
set_option linter.unusedVariables false
set_option linter.unusedSimpArgs false
namespace Go.Proofs.Ytfjmnidenoojhaa
open Go.RowKit

def sb (S : Nat → Bool) (a : Nat) : Nat → Bool := fun i => if i = a then true else S i
def boolsF (n : Nat) (S : Nat → Bool) : List Value := (List.range n).map fun i : Nat => Value.bool (S i)
theorem boolsF_get {n : Nat} (S : Nat → Bool) {i : Nat} (hi : i < n) : (boolsF n S)[i]? = some (.bool (S i)) := by simp [boolsF, hi]
theorem boolsF_set {n : Nat} (S : Nat → Bool) (a : Nat) : (boolsF n S).set a (.bool true) = boolsF n (sb S a) := by
  apply List.ext_getElem
  · simp [boolsF]
  · intro j h1 h2
    rw [List.getElem_set]
    simp [boolsF, sb]
    by_cases e : a = j
    · subst e; simp
    · have e2 : ¬ j = a := Ne.symm e
      simp [e, e2]
theorem made_bools (w : World) {B : Nat} (hB : B ≤ w.heap.size) (n : Nat) (h1 : n ≤ 65536) : (w.alloc (.cells (madeCells #[.bool false] n) 4)).ownsRow B 4 1 (.slice (some ⟨w.heap.size, 0, none⟩) n n) n (boolsF n (fun _ => false)) := by
  refine ⟨by simp [boolsF], .inr ⟨w.heap.size, n, madeCells #[.bool false] n, rfl, hB, heap_alloc_new _ _, Nat.le_refl _, by unfold maxLen; omega, by simp [size_madeCells], ?_⟩⟩
  apply List.ext_getElem?
  intro i
  by_cases hi : i < n
  · rw [boolsF_get _ hi]
    simp [madeCells, hi, Nat.mod_one]
  · rw [List.getElem?_eq_none (by simp; omega), List.getElem?_eq_none (by simp [boolsF]; omega)]
theorem info4 : (Try.prog.info? 4).map (fun i => (i.zero, i.size, i.bytes)) = some (some (.bool false), 1, 1) := by kernel_rfl
def upto (L : Nat → Nat) (k : Nat) : Nat → Nat := fun i => if i < k then L i else 0
theorem upto_next (n k : Nat) (L : Nat → Nat) : intsF n (upd (upto L k) k (L k)) = intsF n (upto L (k + 1)) := by
  apply intsF_congr
  intro i hi
  unfold upd upto
  by_cases e : i = k
  · subst e; simp
  · have : i < k ↔ i < k + 1 := by omega
    simp [e, this]
/-- which roots have been met -/
def met (R : Nat → Nat) : Nat → Nat → Bool
  | 0 => fun _ => false
  | k + 1 => sb (met R k) (R k)
theorem met_succ (R : Nat → Nat) (k : Nat) : met R (k + 1) = sb (met R k) (R k) := rfl
theorem met_iff (R : Nat → Nat) (r : Nat) : ∀ k, met R k r = true ↔ ∃ i, i < k ∧ R i = r := by
  intro k
  induction k with
  | zero => simp [met]
  | succ k ih =>
    unfold met sb
    by_cases e : r = R k
    · simp [e]; exact ⟨k, by omega, rfl⟩
    · simp only [if_neg e, ih]
      constructor
      · rintro ⟨i, h1, h2⟩; exact ⟨i, by omega, h2⟩
      · rintro ⟨i, h1, h2⟩
        have : i ≠ k := fun q => e (by rw [← h2, q])
        exact ⟨i, by omega, h2⟩
def least (R L : Nat → Nat) (k : Nat) : Nat → Nat := fun r => if met R k r = true then L r else 0
theorem met_old {R : Nat → Nat} {k : Nat} (h : met R k (R k) = true) : met R (k + 1) = met R k := by
  funext r
  rw [met_succ]
  unfold sb
  by_cases e : r = R k
  · subst e; simp [h]
  · simp [e]
theorem least_new {R L : Nat → Nat} {k : Nat} (h : met R k (R k) = false) : upd (least R L k) (R k) (L (R k)) = least R L (k + 1) := by
  funext r
  unfold upd least
  by_cases e : r = R k
  · subst e; simp [met, sb]
  · simp [met, sb, e]
theorem UI.first {n : Nat} {P Z R L : Nat → Nat} {G : List Nat} (u : UI n P Z R L G) {k : Nat} (hk : k < n) (h : met R k (R k) = false) : L (R k) = k := by
  have l1 := u.lg.ll k hk
  have l2 := u.lg.idem k hk
  have e1 : L (R k) = L k := (u.lr _ _ (u.rl k hk) hk).2 (u.rr k hk)
  have e2 : R (L k) = R k := (u.lr (L k) k (by omega) hk).1 l2
  by_cases q : L k = k
  · rw [e1, q]
  · have : met R k (R k) = true := (met_iff R (R k) k).2 ⟨L k, by omega, e2⟩
    rw [h] at this
    exact absurd this (by simp)
structure LM (w wr : World) (g1 g2 g3 n : Nat) (A E : Nat → Nat) (S : Nat → Bool) : Prop where
  kp : Kp [] w wr
  r1 : wr.ownsRow w.heap.size 3 1 (.slice (some ⟨g1, 0, none⟩) n n) n (intsF n A)
  r2 : wr.ownsRow w.heap.size 3 1 (.slice (some ⟨g2, 0, none⟩) n n) n (intsF n E)
  r3 : wr.ownsRow w.heap.size 4 1 (.slice (some ⟨g3, 0, none⟩) n n) n (boolsF n S)
  lo : w.heap.size ≤ g1 ∧ w.heap.size ≤ g2 ∧ w.heap.size ≤ g3
  ne : g1 ≠ g2 ∧ g1 ≠ g3 ∧ g2 ≠ g3
theorem far_own {g h n c : Nat} (e : h ≠ g) : ∀ k, (Value.slice (some ⟨g, 0, none⟩) n c).ownBlock = some k → k ≠ h := by
  intro k hk; simp [Value.ownBlock] at hk; omega
theorem LM.set1 {w wr : World} {g1 g2 g3 n : Nat} {A E : Nat → Nat} {S : Nat → Bool} (m : LM w wr g1 g2 g3 n A E S) (i v : Nat) : LM w (wr.setCell ⟨g1, i, none⟩ (.int .i64 (v : Int))) g1 g2 g3 n (upd A i v) E S := by
  obtain ⟨e1, e2, e3⟩ := m.ne
  have q := row_put m.r1 i (.int .i64 (v : Int))
  rw [intsF_set] at q
  exact ⟨m.kp.trans (Kp.set (o := [g1]) _ _ _ (by simp)) (fun x hx => .inr (by simp at hx; have := m.lo; omega)), q, row_side m.r2 (far_own e1) _ _, row_side m.r3 (far_own e2) _ _, m.lo, m.ne⟩
theorem LM.set2 {w wr : World} {g1 g2 g3 n : Nat} {A E : Nat → Nat} {S : Nat → Bool} (m : LM w wr g1 g2 g3 n A E S) (i v : Nat) : LM w (wr.setCell ⟨g2, i, none⟩ (.int .i64 (v : Int))) g1 g2 g3 n A (upd E i v) S := by
  obtain ⟨e1, e2, e3⟩ := m.ne
  have q := row_put m.r2 i (.int .i64 (v : Int))
  rw [intsF_set] at q
  exact ⟨m.kp.trans (Kp.set (o := [g2]) _ _ _ (by simp)) (fun x hx => .inr (by simp at hx; have := m.lo; omega)), row_side m.r1 (far_own (Ne.symm e1)) _ _, q, row_side m.r3 (far_own e3) _ _, m.lo, m.ne⟩
theorem LM.set3 {w wr : World} {g1 g2 g3 n : Nat} {A E : Nat → Nat} {S : Nat → Bool} (m : LM w wr g1 g2 g3 n A E S) (i : Nat) : LM w (wr.setCell ⟨g3, i, none⟩ (.bool true)) g1 g2 g3 n A E (sb S i) := by
  obtain ⟨e1, e2, e3⟩ := m.ne
  have q := row_put m.r3 i (.bool true)
  rw [boolsF_set] at q
  exact ⟨m.kp.trans (Kp.set (o := [g3]) _ _ _ (by simp)) (fun x hx => .inr (by simp at hx; have := m.lo; omega)), row_side m.r1 (far_own (Ne.symm e2)) _ _, row_side m.r2 (far_own (Ne.symm e3)) _ _, q, m.lo, m.ne⟩
theorem LM.start (w : World) (n : Nat) (h1 : n ≤ 65536) : LM w (((w.alloc (.cells (madeCells #[.int .i64 0] n) 3)).alloc (.cells (madeCells #[.int .i64 0] n) 3)).alloc (.cells (madeCells #[.bool false] n) 4)) w.heap.size (w.heap.size + 1) (w.heap.size + 1 + 1) n (fun _ => 0) (fun _ => 0) (fun _ => false) := by
  obtain ⟨t1, t2⟩ := two_made w n h1
  have s2 : ((w.alloc (.cells (madeCells #[.int .i64 0] n) 3)).alloc (.cells (madeCells #[.int .i64 0] n) 3)).heap.size = w.heap.size + 1 + 1 := by simp
  have t3 := made_bools ((w.alloc (.cells (madeCells #[.int .i64 0] n) 3)).alloc (.cells (madeCells #[.int .i64 0] n) 3)) (B := w.heap.size) (by omega) n h1
  rw [s2] at t3
  refine ⟨((Kp.alloc (o := []) w _).trans (Kp.alloc (o := []) _ _) (by simp)).trans (Kp.alloc (o := []) _ _) (by simp), (Kp.alloc (o := []) _ _).row t1 (by simp), (Kp.alloc (o := []) _ _).row t2 (by simp), t3, by omega, by omega⟩
end Go.Proofs.Ytfjmnidenoojhaa
