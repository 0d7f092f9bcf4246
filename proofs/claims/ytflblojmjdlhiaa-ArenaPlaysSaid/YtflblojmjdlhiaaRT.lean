/- An arena and the specification's, step by step. -/
import Derived.Test.YtflblojmjdlhiaaRS
import Derived.Test.YtflblojmjdlhiaaK
import Derived.Deep.RegionHeld3
set_option linter.unusedVariables false
set_option linter.unusedSimpArgs false
namespace Go.Proofs.Ytflblojmjdlhiaa
open Go.RowKit

/-- an arena that is A and the specification's that is C, apart -/
structure PrX (w wr : World) (b r : Nat) (A C : Ar) : Prop where
  ex : ∃ own own', At w.heap.size wr b own A ∧ RAt w.heap.size wr r own' C ∧ Below w.heap.size w wr ∧ (∀ x ∈ own, x ∉ own')
theorem Pr.x {w wr : World} {b r : Nat} {A : Ar} (h : Pr w wr b r A) : PrX w wr b r A A := by
  obtain ⟨own, own', h1, h2, h3, h4, h5⟩ := h.ex
  exact ⟨own, own', h1, h2, h3, h4⟩
theorem PrX.p {w wr : World} {b r : Nat} {A : Ar} (h : PrX w wr b r A A) (ps : A.pos) : Pr w wr b r A := by
  obtain ⟨own, own', h1, h2, h3, h4⟩ := h.ex
  exact ⟨own, own', h1, h2, h3, h4, ps⟩
theorem Pr.ps {w wr : World} {b r : Nat} {A : Ar} (h : Pr w wr b r A) : A.pos := by
  obtain ⟨own, own', h1, h2, h3, h4, h5⟩ := h.ex
  exact h5
theorem PrX.below {w wr : World} {b r : Nat} {A C : Ar} (h : PrX w wr b r A C) : Below w.heap.size w wr := by
  obtain ⟨own, own', h1, h2, h3, h4⟩ := h.ex
  exact h3
theorem PrX.drew {w wr : World} {b r : Nat} {A C : Ar} (h : PrX w wr b r A C) : PrX w wr.drew b r A C := by
  obtain ⟨own, own', h1, h2, h3, h4⟩ := h.ex
  exact ⟨own, own', h1.keep (Kp.drewN [] wr 1) (by simp), h2.keep (Kp.drewN [] wr 1) (by simp), h3.drew, h4⟩
theorem PrX.goes {w wr w2 : World} {b r : Nat} {A A' C : Ar} {own own' : List Nat} (h1 : At w.heap.size wr b own A) (h2 : RAt w.heap.size wr r own' C) (h3 : Below w.heap.size w wr) (h4 : ∀ x ∈ own, x ∉ own') (g : Goes w.heap.size wr b own A' w2) : PrX w w2 b r A' C := by
  obtain ⟨o2, g1, g2, g3⟩ := g
  refine ⟨o2, own', g1, h2.keep g3 (fun x hx hy => h4 x hy hx), h3.trans (g3.below (fun x hx => (h1.lt x hx).1) h3.size), fun x hx hy => ?_⟩
  rcases g2 x hx with h5 | h5
  · exact h4 x h5 hy
  · have := (h2.lt x hy).2; omega
theorem PrX.rgoes {w wr w2 : World} {b r : Nat} {A C C' : Ar} {own own' : List Nat} (h1 : At w.heap.size wr b own A) (h2 : RAt w.heap.size wr r own' C) (h3 : Below w.heap.size w wr) (h4 : ∀ x ∈ own, x ∉ own') (g : RGoes w.heap.size wr r own' C' w2) : PrX w w2 b r A C' := by
  obtain ⟨o2, g1, g2, g3⟩ := g
  refine ⟨own, o2, h1.keep g3 h4, g1, h3.trans (g3.below (fun x hx => (h2.lt x hx).1) h3.size), fun x hx hy => ?_⟩
  rcases g2 x hy with h5 | h5
  · exact h4 x hx h5
  · have := (h1.lt x hx).2; omega
section
variable {w wr : World} {b r : Nat} {A C : Ar}
theorem x_alloc (h : PrX w wr b r A C) : Calls Try.prog 16 #[.pointer (some ⟨b, 0, none⟩)] wr fun e w' => e = .returned (allocV A) ∧ PrX w w' b r A.alloc' C := by
  obtain ⟨own, own', h1, h2, h3, h4⟩ := h.ex
  refine (alloc_t h1).mono ?_
  rintro e w' ⟨rfl, g⟩
  exact ⟨rfl, PrX.goes h1 h2 h3 h4 g⟩
theorem x_free (h : PrX w wr b r A C) (i : Int) : Calls Try.prog 18 #[.pointer (some ⟨b, 0, none⟩), .int .i64 i] wr fun e w' => e = .returned (.int .i64 (A.freeE i)) ∧ PrX w w' b r (A.free' i) C := by
  obtain ⟨own, own', h1, h2, h3, h4⟩ := h.ex
  refine (free_t h1 i).mono ?_
  rintro e w' ⟨rfl, g⟩
  exact ⟨rfl, PrX.goes h1 h2 h3 h4 g⟩
theorem x_ralloc (h : PrX w wr b r A C) (ok : C.ok) (ps : C.pos) : Calls Try.prog 17 #[.pointer (some ⟨r, 0, none⟩)] wr fun e w' => e = .returned (allocV C) ∧ PrX w w' b r A C.alloc' := by
  obtain ⟨own, own', h1, h2, h3, h4⟩ := h.ex
  refine (ralloc_t h2 ok ps).mono ?_
  rintro e w' ⟨rfl, g⟩
  exact ⟨rfl, PrX.rgoes h1 h2 h3 h4 g⟩
theorem x_rfree (h : PrX w wr b r A C) (ok : C.ok) (i : Int) : Calls Try.prog 19 #[.pointer (some ⟨r, 0, none⟩), .int .i64 i] wr fun e w' => e = .returned (.int .i64 (C.freeE i)) ∧ PrX w w' b r A (C.free' i) := by
  obtain ⟨own, own', h1, h2, h3, h4⟩ := h.ex
  refine (rfree_t h2 ok i h3.size).mono ?_
  rintro e w' ⟨rfl, g⟩
  exact ⟨rfl, PrX.rgoes h1 h2 h3 h4 g⟩
theorem x_copy (h : PrX w wr b r A C) : Calls Try.prog 20 #[.pointer (some ⟨b, 0, none⟩)] wr fun e w' => ∃ d, e = .returned (.pointer (some ⟨d, 0, none⟩)) ∧ PrX w w' d r A C := by
  obtain ⟨own, own', h1, h2, h3, h4⟩ := h.ex
  refine (copy_t h1).mono ?_
  rintro e w' ⟨d, o2, rfl, g, k⟩
  refine ⟨d, rfl, o2, own', ?_, h2.keep k (by simp), h3.trans (k.below (by simp) h3.size), fun x hx hy => ?_⟩
  · obtain ⟨v, nb, xs, len, begun, top, U, M, R, ok, rfl⟩ := g
    exact ⟨v, nb, xs, len, begun, top, U, ⟨M.blk, row_mono M.own h3.size, M.ne, by have := M.ge; have := h3.size; omega⟩, R, ok, rfl⟩
  · have := (g.lt x hx).1
    have := (h2.lt x hy).2
    omega
theorem x_rcopy (h : PrX w wr b r A C) (ok : C.ok) : Calls Try.prog 21 #[.pointer (some ⟨r, 0, none⟩)] wr fun e w' => ∃ d, e = .returned (.pointer (some ⟨d, 0, none⟩)) ∧ PrX w w' b d A C := by
  obtain ⟨own, own', h1, h2, h3, h4⟩ := h.ex
  refine (rcopy_t h2 ok).mono ?_
  rintro e w' ⟨d, o2, rfl, g, k⟩
  refine ⟨d, rfl, own, o2, h1.keep k (by simp), ?_, h3.trans (k.below (by simp) h3.size), fun x hx hy => ?_⟩
  · obtain ⟨vI, vC, vR, M, rfl⟩ := g
    have hs := h3.size
    exact ⟨vI, vC, vR, ⟨M.blk, row_mono M.I hs, row_mono M.C hs, row_mono M.R hs, by have := M.ge; omega, M.nd⟩, rfl⟩
  · have := (g.lt x hy).1
    have := (h1.lt x hx).2
    omega
end
/-- counts are from 1 to k -/
def Ar.bd (A : Ar) (k : Nat) : Prop := ∀ i, i < A.T.length → 1 ≤ A.T.getD i 0 ∧ A.T.getD i 0 ≤ (k : Int)
theorem Ar.bd.pos {A : Ar} {k : Nat} (h : A.bd k) : A.pos := fun i hi => by have := h i hi; omega
theorem Ar.bd.le {A : Ar} {k m : Nat} (h : A.bd k) (hm : k ≤ m) : A.bd m := fun i hi => by have := h i hi; omega
theorem Ar.bd.free {A : Ar} {k : Nat} (h : A.bd k) (i : Int) : (A.free' i).bd k := by
  unfold Ar.free'
  split
  · exact h
  · exact h
theorem Ar.bd.alloc {A : Ar} {k : Nat} (h : A.bd k) (hk : k ≤ 1000) : A.alloc'.bd (k + 1) := by
  unfold Ar.alloc'
  cases hn : A.next with
  | none => exact h.le (by omega)
  | some i =>
    rcases hf : A.fr with _ | ⟨j, r⟩
    · have e1 : A.alloc = ⟨A.cap, A.T ++ [1], []⟩ := by unfold Ar.alloc; rw [hf]
      show A.alloc.bd (k + 1)
      rw [e1]
      intro i hi
      simp at hi
      by_cases hlt : i < A.T.length
      · have := h i hlt
        have e : (A.T ++ [1]).getD i 0 = A.T.getD i 0 := by simp [List.getD, List.getElem?_append_left hlt]
        show 1 ≤ (A.T ++ [1]).getD i 0 ∧ _
        rw [e]
        omega
      · have : i = A.T.length := by omega
        subst this
        show 1 ≤ (A.T ++ [1]).getD _ 0 ∧ _
        simp [List.getD]
        omega
    · have e1 : A.alloc = ⟨A.cap, A.T.set j (IntKind.u64.wrap (A.T.getD j 0 + 1)), r⟩ := by unfold Ar.alloc; rw [hf]
      show A.alloc.bd (k + 1)
      rw [e1]
      intro i hi
      simp at hi
      have hb := h i hi
      by_cases hj : j = i
      · subst hj
        have e : (A.T.set j (IntKind.u64.wrap (A.T.getD j 0 + 1))).getD j 0 = IntKind.u64.wrap (A.T.getD j 0 + 1) := by simp [List.getD, hi]
        show 1 ≤ (A.T.set j _).getD j 0 ∧ (A.T.set j _).getD j 0 ≤ _
        rw [e, IntKind.wrap_u64]
        omega
      · have e : (A.T.set j (IntKind.u64.wrap (A.T.getD j 0 + 1))).getD i 0 = A.T.getD i 0 := by simp [List.getD, List.getElem?_set, hj]
        show 1 ≤ (A.T.set j _).getD i 0 ∧ (A.T.set j _).getD i 0 ≤ _
        rw [e]
        omega
theorem allocV_pair (A : Ar) : ∃ (x y : Int), allocV A = .tuple #[.int .i64 x, .int .i64 y] := by
  unfold allocV
  cases A.next with
  | none => exact ⟨_, _, rfl⟩
  | some i => exact ⟨_, _, rfl⟩
theorem rowsI_two {w : World} {s : Option Addr} {n : Nat} {V : Nat → Nat → Int} (h : RowsI w s [.i64, .i64] n V) {i : Nat} (hi : i < n) :
    ∃ b off, s = some ⟨b, off, none⟩ ∧ b < w.heap.size ∧ w.cell? ⟨b, off + i * 2, none⟩ = some (.int .i64 (V i 0)) ∧ w.cell? ⟨b, off + i * 2 + 1, none⟩ = some (.int .i64 (V i 1)) := by
  rcases h with h | ⟨b, off, rfl, hb, hc⟩
  · omega
  · have h0 := hc i hi 0 .i64 rfl
    have h1 := hc i hi 1 .i64 rfl
    simp at h0 h1
    exact ⟨b, off, rfl, hb, h0.1, h1.1⟩
end Go.Proofs.Ytflblojmjdlhiaa
