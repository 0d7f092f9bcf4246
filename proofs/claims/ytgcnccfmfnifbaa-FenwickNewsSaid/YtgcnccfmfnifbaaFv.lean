/- Rows whose elements are a function's values. -/
import Derived.Test.YtgcnccfmfnifbaaGen
import Derived.Deep.OwnRows
set_option linter.unusedVariables false
set_option linter.unusedSimpArgs false
namespace Go.Proofs.Ytgcnccfmfnifbaa
open Go.RowKit

def rowV (n : Nat) (f : Nat → Value) : List Value := (List.range n).map f
def updV (f : Nat → Value) (a : Nat) (v : Value) : Nat → Value := fun i => if i = a then v else f i
theorem rowV_len (n : Nat) (f : Nat → Value) : (rowV n f).length = n := by simp [rowV]
theorem rowV_get {n : Nat} (f : Nat → Value) {i : Nat} (hi : i < n) : (rowV n f)[i]? = some (f i) := by simp [rowV, hi]
theorem rowV_congr {n : Nat} {f g : Nat → Value} (h : ∀ i, i < n → f i = g i) : rowV n f = rowV n g := by
  unfold rowV
  exact List.map_congr_left fun i hi => h i (by simpa using hi)
theorem rowV_set {n : Nat} (f : Nat → Value) {a : Nat} (v : Value) : (rowV n f).set a v = rowV n (updV f a v) := by
  apply List.ext_getElem?
  intro i
  by_cases hi : i < n
  · rw [rowV_get _ hi]
    by_cases e : i = a
    · subst e; rw [List.getElem?_set]; simp [updV, rowV, hi]
    · rw [List.getElem?_set_ne (by omega), rowV_get _ hi]; simp [updV, e]
  · rw [List.getElem?_eq_none (by simp [rowV]; omega), List.getElem?_eq_none (by simp [rowV]; omega)]
theorem rowV_snoc (n : Nat) (f : Nat → Value) : rowV (n + 1) f = rowV n f ++ [f n] := by simp [rowV, List.range_succ]
theorem rowV_one {n : Nat} {f : Nat → Value} (h : ∀ i, i < n → (f i).oneCell' = true) : ∀ u ∈ rowV n f, u.oneCell' = true := by
  intro u hu
  simp only [rowV, List.mem_map, List.mem_range] at hu
  obtain ⟨i, hi, rfl⟩ := hu
  exact h i hi
theorem rowV_const (n : Nat) (z : Value) : rowV n (fun _ => z) = List.replicate n z := by
  apply List.ext_getElem?
  intro i
  by_cases hi : i < n
  · rw [rowV_get _ hi]; simp [hi]
  · rw [List.getElem?_eq_none (by simp [rowV]; omega), List.getElem?_eq_none (by simp; omega)]
theorem rowV_list {α : Type} (l : List α) (g : α → Value) (d : α) : l.map g = rowV l.length (fun i => g (l.getD i d)) := by
  apply List.ext_getElem?
  intro i
  by_cases hi : i < l.length
  · rw [rowV_get _ hi]; simp [List.getD, hi]
  · rw [List.getElem?_eq_none (by simp; omega), List.getElem?_eq_none (by simp [rowV]; omega)]
theorem made_full (w : World) {B : Nat} (hB : B ≤ w.heap.size) (n : Nat) (h1 : n ≤ maxLen) (z : Value) (e : TypeId) : (w.alloc (.cells (madeCells #[z] n) e)).ownsRow B e 1 (.slice (some ⟨w.heap.size, 0, none⟩) n n) n (rowV n (fun _ => z)) := by
  refine ⟨by simp [rowV], .inr ⟨w.heap.size, n, madeCells #[z] n, rfl, hB, heap_alloc_new _ _, Nat.le_refl _, h1, by simp [size_madeCells], ?_⟩⟩
  apply List.ext_getElem?
  intro i
  by_cases hi : i < n
  · rw [rowV_get _ hi]
    simp [madeCells, hi, Nat.mod_one]
  · rw [List.getElem?_eq_none (by simp; omega), List.getElem?_eq_none (by rw [rowV_len]; omega)]
theorem run_append_none {P : Program} {w : World} (base : Nat) (t ty e : TypeId) (i : TypeInfo) (size : Nat) (ht : P.underlying t = some (.slice e)) (hi : P.info? e = some i)
    (v : Value) (n : Nat) (xs : List Value) (hown : w.ownsRow base e size v n xs) (c : Nat) : (Builtin.append_ #[t, t] ty #[v, .slice none 0 c]).run P w = .ok v w := by
  rcases hown.2 with ⟨rfl, rfl⟩ | ⟨g, cap, cur, rfl, _, _, hnc, _⟩
  · simp [Builtin.append_, run_underlying ht, sizeOf, typeInfo, hi, Builtin.lenOf, Builtin.firstCells]
  · simp [Builtin.append_, run_underlying ht, sizeOf, typeInfo, hi, Builtin.lenOf, Builtin.firstCells, hnc, storeCells]
theorem wpList_append_none {P : Program} {w : World} {ops : Array Oper} {rest : List Oper} {o : Oper} {a : Act} {Q : Exit → Act → World → Prop} (hgd : o.guard = none) (s x : Operand) (t : TypeId)
    (ho : o.op = .call { callee := .builtin .append, args := #[s, x], argTypes := #[t, t] })
    (base : Nat) (e : TypeId) (i : TypeInfo) (size : Nat) (ht : P.underlying t = some (.slice e)) (hi : P.info? e = some i)
    (v : Value) (n : Nat) (xs : List Value) (hs : a.eval s = v) (hown : w.ownsRow base e size v n xs) (c : Nat) (hx : a.eval x = .slice none 0 c)
    (h : wpList P ops Q rest (a.put o.dst v) w) : wpList P ops Q (o :: rest) a w := by
  refine wpList_plain hgd fun K hK => ?_
  have hrun := run_append_none (P := P) (w := w) base t o.type e i size ht hi v n xs hown c
  unfold Oper.wp
  simp [execOp, ho, resolve, invoke, builtin, hs, hx, hrun, Result.andThen]
  exact hK _ _ h
/-- a store into a row of functions' values -/
theorem row_putV {w : World} {B e n c g : Nat} {f : Nat → Value} (h : w.ownsRow B e 1 (.slice (some ⟨g, 0, none⟩) n c) n (rowV n f)) (j : Nat) (u : Value) : (w.setCell ⟨g, j, none⟩ u).ownsRow B e 1 (.slice (some ⟨g, 0, none⟩) n c) n (rowV n (updV f j u)) := by rw [← rowV_set]; exact row_put h j u
theorem Kp.put {o : List Nat} {w wr : World} (h : Kp o w wr) (g j : Nat) (u : Value) (hg : g ∈ o ∨ w.heap.size ≤ g) : Kp o w (wr.setCell ⟨g, j, none⟩ u) :=
  h.trans (Kp.set (o := [g]) wr ⟨g, j, none⟩ u (by simp)) (fun x hx => by simp at hx; subst hx; exact hg)
theorem blk_set {w : World} {b g j : Nat} {u : Value} {x : Obj} (h : w.heap[b]? = some x) (n : b ≠ g) : (w.setCell ⟨g, j, none⟩ u).heap[b]? = some x := (Kp.set (o := [g]) w ⟨g, j, none⟩ u (by simp)).blk h (by simpa using n)
end Go.Proofs.Ytgcnccfmfnifbaa
