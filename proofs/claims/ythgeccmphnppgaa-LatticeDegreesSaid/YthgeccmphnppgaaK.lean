/- Degrees: the matrix and the counts. -/
import Derived.Test.YthgeccmphnppgaaZ
import Derived.Test.YthgeccmphnppgaaW
set_option linter.unusedVariables false
set_option linter.unusedSimpArgs false
namespace Go.Proofs.Ythgeccmphnppgaa
open Go.RowKit

structure DG (W wr : World) (gs gd n : Nat) (S : Nat → Bool) (D : Nat → Nat) : Prop where
  kp : Kp [] W wr
  gs1 : W.heap.size ≤ gs
  gd1 : W.heap.size ≤ gd
  ne : gs ≠ gd
  sc : ∀ p, p < n * n → wr.cell? ⟨gs, p, none⟩ = some (.bool (S p))
  fs : ∀ p, wr.frozen? ⟨gs, p, none⟩ = false
  fd : ∀ p, wr.frozen? ⟨gd, p, none⟩ = false
  dc : ∀ i, i < n → wr.cell? ⟨gd, i, none⟩ = some (.int .i64 ((D i : Nat) : Int))
theorem DG.drew {W wr : World} {gs gd n : Nat} {S : Nat → Bool} {D : Nat → Nat} (h : DG W wr gs gd n S D) (q : Nat) : DG W (wr.drewN q) gs gd n S D :=
  ⟨h.kp.trans (Kp.drewN [] wr q) (by simp), h.gs1, h.gd1, h.ne, h.sc, h.fs, h.fd, h.dc⟩
theorem DG.mark {W wr : World} {gs gd n : Nat} {S : Nat → Bool} {D : Nat → Nat} (h : DG W wr gs gd n S D) {p : Nat} (hp : p < n * n) : DG W (wr.setCell ⟨gs, p, none⟩ (.bool true)) gs gd n (fun q => S q || p == q) D := by
  refine ⟨h.kp.trans (Kp.set (o := [gs]) wr ⟨gs, p, none⟩ (.bool true) (by simp)) (fun z hz => .inr (by simp at hz; subst hz; exact h.gs1)), h.gs1, h.gd1, h.ne, ?_, fun q => by simp [h.fs], fun q => by simp [h.fd], ?_⟩
  · intro q hq
    by_cases e : p = q
    · subst e
      rw [World.cell?_setCell_same _ _ _ (h.sc p hp)]
      simp
    · rw [cell_far (by simp; try omega), h.sc q hq]
      simp [e]
  · intro i hi
    rw [cell_far (by simp; intro e; exact absurd e.symm h.ne), h.dc i hi]
theorem DG.more {W wr : World} {gs gd n : Nat} {S : Nat → Bool} {D : Nat → Nat} (h : DG W wr gs gd n S D) {i : Nat} (hi : i < n) : DG W (wr.setCell ⟨gd, i, none⟩ (.int .i64 ((D i + 1 : Nat) : Int))) gs gd n S (fun j => D j + if i = j then 1 else 0) := by
  refine ⟨h.kp.trans (Kp.set (o := [gd]) wr ⟨gd, i, none⟩ _ (by simp)) (fun z hz => .inr (by simp at hz; subst hz; exact h.gd1)), h.gs1, h.gd1, h.ne, ?_, fun q => by simp [h.fs], fun q => by simp [h.fd], ?_⟩
  · intro q hq
    rw [cell_far (by simp; intro e; exact absurd e h.ne), h.sc q hq]
  · intro j hj
    by_cases e : i = j
    · subst e
      rw [World.cell?_setCell_same _ _ _ (h.dc i hi)]
      simp
    · rw [cell_far (by simp; try omega), h.dc j hj]
      simp [e]
theorem DG.of {W wr : World} {gs gd n : Nat} {S S' : Nat → Bool} {D D' : Nat → Nat} (h : DG W wr gs gd n S D) (e1 : S = S') (e2 : D = D') : DG W wr gs gd n S' D' := by subst e1; subst e2; exact h
theorem info4 : (Try.prog.info? 4).map (fun i => (i.zero, i.size, i.bytes)) = some (some (.bool false), 1, 1) := by kernel_rfl
theorem seen_nil (n : Nat) : seen n ([] : List E3) = fun _ => false := rfl
theorem deg_nil : deg ([] : List E3) = fun _ => 0 := rfl
theorem seen_two {n : Nat} {l : List E3} {k : Nat} {u v : Nat} (h : l[k]? = some ((u : Int), (v : Int), 0)) : (fun q => (seen n (l.take k) q || u * n + v == q) || v * n + u == q) = seen n (l.take (k + 1)) := by
  funext q
  rw [seen_next h, un_c, vn_c, Bool.or_assoc]
theorem deg_two {l : List E3} {k : Nat} {u v : Nat} (h : l[k]? = some ((u : Int), (v : Int), 0)) : (fun j => deg (l.take k) j + (if u = j then 1 else 0) + if v = j then 1 else 0) = deg (l.take (k + 1)) := by
  funext q
  rw [deg_next h, un_c, vn_c]
theorem made_at (w : World) (z : Value) (n : Nat) (t : TypeId) {p : Nat} (hp : p < n) : (w.alloc (.cells (madeCells #[z] n) t)).cell? ⟨w.heap.size, p, none⟩ = some z := by
  rw [World.cell?_alloc_new]
  simp [madeCells, hp, Nat.mod_one]
theorem DG.start (w1 : World) {N n : Nat} (hN : N = n * n) (l : List E3) : DG w1 ((w1.alloc (.cells (madeCells #[.bool false] N) 4)).alloc (.cells (madeCells #[.int .i64 0] n) 3)) w1.heap.size (w1.heap.size + 1) n (seen n (l.take 0)) (deg (l.take 0)) := by
  have k1 : Kp [] w1 (w1.alloc (.cells (madeCells #[.bool false] N) 4)) := .of_below ((Below.refl _ _).alloc (Nat.le_refl _) _)
  have k2 : Kp [] (w1.alloc (.cells (madeCells #[.bool false] N) 4)) ((w1.alloc (.cells (madeCells #[.bool false] N) 4)).alloc (.cells (madeCells #[.int .i64 0] n) 3)) := .of_below ((Below.refl _ _).alloc (Nat.le_refl _) _)
  have hs : (w1.alloc (.cells (madeCells #[.bool false] N) 4)).heap.size = w1.heap.size + 1 := by simp
  have b1 : ((w1.alloc (.cells (madeCells #[.bool false] N) 4)).alloc (.cells (madeCells #[.int .i64 0] n) 3)).heap[w1.heap.size]? = some (.cells (madeCells #[.bool false] N) 4) := k2.blk (heap_alloc_new _ _) (by simp)
  have b2 : ((w1.alloc (.cells (madeCells #[.bool false] N) 4)).alloc (.cells (madeCells #[.int .i64 0] n) 3)).heap[w1.heap.size + 1]? = some (.cells (madeCells #[.int .i64 0] n) 3) := by rw [← hs]; exact heap_alloc_new _ _
  refine ⟨k1.trans k2 (by simp), Nat.le_refl _, by omega, by omega, ?_, fun p => free_of_blk b1 p, fun p => free_of_blk b2 p, ?_⟩
  · intro p hp
    rw [← hN] at hp
    have e := made_at w1 (.bool false) N 4 hp
    rw [List.take_zero, seen_nil]
    have hb := k2.block w1.heap.size (by omega) (by simp)
    unfold World.cell? at e ⊢
    rw [hb]
    exact e
  · intro i hi
    have := made_at (w1.alloc (.cells (madeCells #[.bool false] N) 4)) (.int .i64 0) n 3 hi
    rw [hs] at this
    rw [List.take_zero, deg_nil, this]; rfl
end Go.Proofs.Ythgeccmphnppgaa
