/- Flags in memory; records matched one by one. -/
import Derived.Test.YtiebmjdclicheaaMZ
set_option linter.unusedVariables false
set_option linter.unusedSimpArgs false
namespace Go.Proofs.Ytiebmjdclicheaa
open Go.RowKit

theorem infoB : (Try.prog.info? 4).map (fun i => (i.zero, i.size, i.bytes)) = some (some (.bool false), 1, 1) := by kernel_rfl
def flag (G : Nat → Bool) (j : Nat) : Value := .bool (G j)
def updB (G : Nat → Bool) (a : Nat) : Nat → Bool := fun j => if j = a then true else G j
theorem flag_upd (n : Nat) (G : Nat → Bool) (a : Nat) : rowV n (updV (flag G) a (.bool true)) = rowV n (flag (updB G a)) := rowV_congr fun i _ => by
  unfold updV flag updB
  by_cases h : i = a
  · rw [if_pos h, if_pos h]
  · rw [if_neg h, if_neg h]
/-- the flags tell which elements of s have been met: those of m -/
def Match (s m : List R4) (G : Nat → Bool) : Prop := ∀ x, (List.range s.length).countP (fun j => G j && decide (s.getD j zz = x)) = m.countP (fun y => decide (y = x))
theorem Match.start (s : List R4) : Match s [] (fun _ => false) := fun x => by simp
theorem count_range (s : List R4) (x : R4) : (List.range s.length).countP (fun j => decide (s.getD j zz = x)) = s.countP (fun y => decide (y = x)) := by
  have h : s = (List.range s.length).map (fun j => s.getD j zz) := by
    apply List.ext_getElem?
    intro i
    by_cases hi : i < s.length
    · simp [hi, List.getD]
    · rw [List.getElem?_eq_none (by omega), List.getElem?_eq_none (by simp; omega)]
  conv => rhs; rw [h]
  rw [List.countP_map]
  rfl
theorem Match.more {s m : List R4} {G : Nat → Bool} (h : Match s m G) {j : Nat} {y : R4} (hj : j < s.length) (g : G j = false) (e : s.getD j zz = y) : Match s (m ++ [y]) (updB G j) := fun x => by
  rw [List.countP_append, ← h x]
  have key : ∀ n : Nat, (List.range n).countP (fun i => updB G j i && decide (s.getD i zz = x)) = (List.range n).countP (fun i => G i && decide (s.getD i zz = x)) + (if j < n ∧ y = x then 1 else 0) := by
    intro n
    induction n with
    | zero => simp
    | succ n ih =>
      rw [List.range_succ, List.countP_append, List.countP_append, ih]
      simp only [List.countP_cons, List.countP_nil, Nat.zero_add]
      by_cases hn : n = j
      · subst hn
        rw [e]
        by_cases hy : y = x
        · simp [updB, g, hy]
        · simp [updB, g, hy]
      · have e1 : updB G j n = G n := by simp [updB, hn]
        rw [e1]
        by_cases hy : y = x
        · by_cases hjn : j < n
          · simp only [hjn, hy, and_self, if_true, show j < n + 1 by omega]; omega
          · simp only [hjn, hy, false_and, if_false, show ¬ j < n + 1 by omega]; omega
        · simp only [hy, and_false, if_false]; omega
  rw [key]
  simp only [List.countP_cons, List.countP_nil, Nat.zero_add, hj, true_and, decide_eq_true_eq]
theorem Match.find {s l : List R4} {G : Nat → Bool} {i : Nat} {y : R4} (h : Match s (l.take i) G) (p : s.Perm l) (hy : l[i]? = some y) : ∃ j, j < s.length ∧ G j = false ∧ s.getD j zz = y := by
  refine Classical.byContradiction fun hn => ?_
  have hall : ∀ j, j < s.length → s.getD j zz = y → G j = true := fun j hj he => by
    cases hg : G j with
    | true => rfl
    | false => exact absurd ⟨j, hj, hg, he⟩ hn
  have e1 := h y
  have e2 : (List.range s.length).countP (fun j => G j && decide (s.getD j zz = y)) = (List.range s.length).countP (fun j => decide (s.getD j zz = y)) := by
    apply List.countP_congr
    intro j hj
    have hj := List.mem_range.1 hj
    simp only [Bool.and_eq_true, decide_eq_true_eq]
    exact ⟨fun h => h.2, fun h => ⟨hall j hj h, h⟩⟩
  rw [e2, count_range, p.countP_eq] at e1
  have e3 : l.countP (fun z => decide (z = y)) = (l.take i).countP (fun z => decide (z = y)) + (l.drop i).countP (fun z => decide (z = y)) := by
    rw [← List.countP_append, List.take_append_drop]
  rw [drop_at hy, List.countP_cons] at e3
  simp at e3
  omega
theorem At4.keep {w w' : World} {b o : Nat} {x : R4} (k : Kp [] w w') (hb : b < w.heap.size) (h : At4 w b o x) : At4 w' b o x := ⟨(k.at hb _).trans h.1, (k.at hb _).trans h.2.1, (k.at hb _).trans h.2.2.1, (k.at hb _).trans h.2.2.2⟩
theorem eql_rec (x y : R4) (w : World) : (binOp .eql 24 x.val y.val).run Try.prog w = .ok (.bool (decide (x = y))) w := by
  obtain ⟨a, b, c, d⟩ := x
  obtain ⟨a', b', c', d'⟩ := y
  unfold R4.val
  by_cases h1 : a = a'
  · by_cases h2 : b = b'
    · by_cases h3 : c = c'
      · by_cases h4 : d = d'
        · subst h1; subst h2; subst h3; subst h4; go_simp
        · subst h1; subst h2; subst h3; go_simp
      · subst h1; subst h2; go_simp
    · subst h1; go_simp
  · go_simp
theorem getD_some {l : List R4} {i : Nat} (h : i < l.length) : l[i]? = some (l.getD i zz) := by simp [List.getD, h]
theorem sort_at {k : Int} {l : List R4} {i x : Nat} (h : (permA k l)[i]? = some (x : Int)) : (sortA k l)[i]? = some (l.getD x zz) := by rw [sort_perm, List.getElem?_map, h]; rfl
end Go.Proofs.Ytiebmjdclicheaa
