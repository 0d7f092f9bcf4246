/- The specification's Alloc, Free and Copy. -/
import Derived.Test.YtflblojmjdlhiaaRN
import Derived.StillTailTactics
import Derived.Laws.Slices
set_option linter.unusedVariables false
set_option linter.unusedSimpArgs false
namespace Go.Proofs.Ytflblojmjdlhiaa
open Go.RowKit

theorem el51 : Try.prog.elem 51 = 3 := by kernel_rfl
theorem row_take {w : World} {B e n c m : Nat} {p : Option Addr} {xs : List Value} (h : w.ownsRow B e 1 (.slice p n c) n xs) (hm : m ≤ n) (hp : p ≠ none) : w.ownsRow B e 1 (.slice p m c) m (xs.take m) := by
  obtain ⟨hl, h1 | ⟨g, cap, cur, hv, hg, hh, hn, hmx, hs, ht⟩⟩ := h
  · obtain ⟨h1, _⟩ := h1
    injection h1 with h1 _ _
    exact absurd h1 hp
  · injection hv with h1 h2 h3
    subst h1; subst h3
    refine ⟨by simp at hl ⊢; omega, .inr ⟨g, c, cur, rfl, hg, hh, by omega, hmx, hs, ?_⟩⟩
    rw [← ht, List.take_take, Nat.mul_one, Nat.mul_one, Nat.min_eq_left hm]
theorem outs_alloc {A : Ar} (ok : A.ok) {i : Nat} (h : A.next = some i) : (outs A A.cap).set i (.bool true) = outs A.alloc A.alloc.cap := by
  obtain ⟨f0, f1, f2, f3, f4, f5, f6⟩ := alloc_facts ok h
  rw [f5]
  exact outs_set f2 f3
theorem times_alloc {A : Ar} (ok : A.ok) {i : Nat} (h : A.next = some i) (j : Nat) : A.alloc.times (j : Int) = if j = i then IntKind.u64.wrap (A.times (i : Int) + 1) else A.times (j : Int) := by
  rcases hf : A.fr with _ | ⟨k, r⟩
  · have hn : A.T.length = i := by
      unfold Ar.next at h
      rw [hf] at h
      simp at h
      exact h.2
    have e1 : A.alloc = ⟨A.cap, A.T ++ [1], []⟩ := by unfold Ar.alloc; rw [hf]
    rw [e1]
    subst hn
    unfold Ar.times
    by_cases hj : j = A.T.length
    · subst hj
      rw [if_pos rfl, if_pos (by simp; omega), if_neg (by omega)]
      simp [List.getD]
      rw [IntKind.wrap_u64]; rfl
    · rw [if_neg hj]
      by_cases hlt : j < A.T.length
      · rw [if_pos (by simp; omega), if_pos (by omega)]
        simp [List.getD, List.getElem?_append_left hlt]
      · rw [if_neg (by simp; omega), if_neg (by omega)]
  · have hi : k = i := by
      unfold Ar.next at h
      rw [hf] at h
      simpa using h
    subst hi
    have e1 : A.alloc = ⟨A.cap, A.T.set k (IntKind.u64.wrap (A.T.getD k 0 + 1)), r⟩ := by unfold Ar.alloc; rw [hf]
    have hk := ok.lt k (by rw [hf]; simp)
    rw [e1]
    unfold Ar.times
    by_cases hj : j = k
    · subst hj
      rw [if_pos rfl, if_pos (by simp; omega), if_pos (by omega)]
      simp [List.getD, hk]
    · rw [if_neg hj]
      by_cases hlt : j < A.T.length
      · rw [if_pos (by simp; omega), if_pos (by omega)]
        simp [List.getD, List.getElem?_set, Ne.symm hj]
      · rw [if_neg (by simp; omega), if_neg (by omega)]
theorem cnts_alloc {A : Ar} (ok : A.ok) {i : Nat} (h : A.next = some i) : (cnts A A.cap).set i (.int .u64 (IntKind.u64.wrap (A.times (i : Int) + 1))) = cnts A.alloc A.alloc.cap := by
  obtain ⟨f0, f1, f2, f3, f4, f5, f6⟩ := alloc_facts ok h
  rw [f5]
  apply List.ext_getElem
  · simp [cnts]
  · intro j h1 h2
    rw [List.getElem_set]
    simp [cnts]
    rw [times_alloc ok h j]
    by_cases e : i = j
    · subst e; simp
    · rw [if_neg e, if_neg (Ne.symm e)]

/-- what a call on the specification's arena leaves -/
def RGoes (B : Nat) (w : World) (r : Nat) (own : List Nat) (A : Ar) (w' : World) : Prop :=
  ∃ own', RAt B w' r own' A ∧ (∀ k ∈ own', k ∈ own ∨ w.heap.size ≤ k) ∧ Kp own w w'
theorem RAt.goes {B : Nat} {w w' : World} {r : Nat} {own : List Nat} {A : Ar} (h : RAt B w r own A) (k : Kp [] w w') : RGoes B w r own A w' :=
  ⟨own, h.keep k (by simp), fun k hk => .inl hk, k.mono (by simp)⟩
theorem row_put {w : World} {B e n c g : Nat} {xs : List Value} (h : w.ownsRow B e 1 (.slice (some ⟨g, 0, none⟩) n c) n xs) (j : Nat) (u : Value) : (w.setCell ⟨g, j, none⟩ u).ownsRow B e 1 (.slice (some ⟨g, 0, none⟩) n c) n (xs.set j u) := (h.stored j u).1
theorem row_side {w : World} {B e size n : Nat} {v : Value} {xs : List Value} (h : w.ownsRow B e size v n xs) {b : Nat} (d : ∀ k, v.ownBlock = some k → k ≠ b) (j : Nat) (u : Value) : (w.setCell ⟨b, j, none⟩ u).ownsRow B e size v n xs :=
  (Kp.set w ⟨b, j, none⟩ u (o := [b]) (by simp)).row h fun k hk => by simpa using d k hk

set_option maxRecDepth 100000 in
set_option maxHeartbeats 4000000 in
theorem ralloc_pop {B : Nat} {w : World} {r : Nat} {own : List Nat} {A : Ar} (h : RAt B w r own A) (ok : A.ok) (ps : A.pos) {i : Nat} {rr : List Nat} (hf : A.fr = i :: rr) :
    Calls Try.prog 17 #[.pointer (some ⟨r, 0, none⟩)] w fun e w' => e = .returned (.tuple #[.int .i64 (i : Int), .int .i64 0]) ∧ RGoes B w r own A.alloc w' := by
  have hnx : A.next = some i := by unfold Ar.next; rw [hf]
  have nx := rnext_t h ok ps
  have hn : nextV A = .tuple #[.int .i64 (i : Int), .bool true] := by unfold nextV; rw [hnx]
  rw [hn] at nx
  have H := hide h
  have v0 : Calls Try.prog 40 #[.pointer (some ⟨r, 0, none⟩)] w fun e w' => e = .returned (.bool true) ∧ w = w' := by
    obtain ⟨vI, vC, vR, M, _⟩ := h
    exact rvalid_t r w M.c.1
  obtain ⟨f0, f1, f2, f3, f4, f5, f6⟩ := alloc_facts ok hnx
  have hi := f2
  have OA := hide (outs_alloc ok hnx)
  have CA := hide (cnts_alloc ok hnx)
  have CP := hide f5
  have HF := hide hf
  have NX := hide nx
  have FL := hide (show rr.length + 1 ≤ 65536 by have h1 := A.fr_le ok; have := ok.le; have := ok.cap; rw [hf] at h1; simp at h1; omega)
  have AL := hide (show A.alloc.fr = rr by unfold Ar.alloc; rw [hf])
  clear f0 f1 f2 f3 f4 f5 f6 hnx hn nx ok ps h
  go_enter Try.func17, Try.ntmps17
  go_wp2_with (first | (go_at_call 40; refine v0.mono ?_; rintro e w' ⟨rfl, rfl⟩))
  refine NX.out.mono ?_
  rintro e w1 ⟨rfl, k1⟩
  have K1 := hide k1
  obtain ⟨vI, vC, vR, M, hown⟩ := H.out.keep k1 (by simp)
  obtain ⟨c0, c1, c2, c3, c4⟩ := M.c
  obtain ⟨pI, cI, rfl⟩ := row_slice M.I
  obtain ⟨pC, cC, rfl⟩ := row_slice M.C
  obtain ⟨pR, cR, rfl⟩ := row_slice M.R
  obtain ⟨gI, rfl, hcI, hfI, _⟩ := row_cell M.I hi
  obtain ⟨gC, rfl, hcC, hfC, _⟩ := row_cell M.C hi
  have hl : A.fr.length = rr.length + 1 := by rw [hf]; rfl
  obtain ⟨gR, rfl, hcR, _, _⟩ := row_cell M.R (k := rr.length) (by omega)
  rw [outs_get A hi] at hcI
  rw [cnts_get A hi] at hcC
  rw [hl] at c4
  have fr4 := free_of_blk M.blk 4
  obtain ⟨m, hm⟩ : ∃ m, m = rr.length + 1 := ⟨_, rfl⟩
  rw [← hm] at c4
  have dm : decide (0 < m) = true := by simp; omega
  have wm : IntKind.i64.wrap ((m : Int) - 1) = (rr.length : Int) := by have := FL.out; rw [IntKind.wrap_i64]; omega
  have hmr : rr.length ≤ m := by omega
  have hmc : rr.length ≤ cR := by
    obtain ⟨_, h1 | ⟨g', cap', cur, hv, _, _, hn, _⟩⟩ := M.R
    · cases h1.1
    · injection hv with _ _ h3; subst h3; omega
  have he51 := el51
  have MM := hide M
  have HO := hide hown
  have HM := hide (And.intro hm hl)
  have nd := M.nd
  simp [Value.ownBlock] at nd
  obtain ⟨⟨n1, n2, n3⟩, ⟨n4, n5⟩, n6⟩ := nd
  have n1' := Ne.symm n1
  have n2' := Ne.symm n2
  have n4' := Ne.symm n4
  clear M hown k1 v0 hm hl hcR
  generalize A.times (i : Int) = t at *
  go_wp2_with fail
  refine wp_region_still_tail 14 (by kernel_rfl) (by kernel_rfl) ?_
  simp only [List.take_succ_cons, List.take_zero, List.drop_succ_cons, List.drop_zero]
  generalize hwd : ({ w1 with drawn := w1.drawn + 1 } : World) = wd
  have KD : Kp [] w1 wd := by rw [← hwd]; exact ⟨rfl, rfl, rfl, Nat.le_refl _, fun _ _ _ => rfl⟩
  have hh : wd.heap = w1.heap := by rw [← hwd]
  have e4 : wd.cell? ⟨r, 4, none⟩ = some (.slice (some ⟨gR, 0, none⟩) m cR) := by rw [World.cell?_of_block (w := w1) (by rw [hh])]; exact c4
  have e2 : wd.cell? ⟨r, 2, none⟩ = some (.slice (some ⟨gI, 0, none⟩) A.cap cI) := by rw [World.cell?_of_block (w := w1) (by rw [hh])]; exact c2
  have e3 : wd.cell? ⟨r, 3, none⟩ = some (.slice (some ⟨gC, 0, none⟩) A.cap cC) := by rw [World.cell?_of_block (w := w1) (by rw [hh])]; exact c3
  have eI : wd.cell? ⟨gI, i, none⟩ = some (.bool (A.used i)) := by rw [World.cell?_of_block (w := w1) (by rw [hh])]; exact hcI
  have eC : wd.cell? ⟨gC, i, none⟩ = some (.int .u64 t) := by rw [World.cell?_of_block (w := w1) (by rw [hh])]; exact hcC
  have x4 : wd.frozen? ⟨r, 4, none⟩ = false := by rw [World.frozen?_of_block (w := w1) (by rw [hh])]; exact fr4
  have xI : wd.frozen? ⟨gI, i, none⟩ = false := by rw [World.frozen?_of_block (w := w1) (by rw [hh])]; exact hfI
  have xC : wd.frozen? ⟨gC, i, none⟩ = false := by rw [World.frozen?_of_block (w := w1) (by rw [hh])]; exact hfC
  have HW := hide (And.intro hwd KD)
  clear hwd KD hh c0 c1 c2 c3 c4 hcI hcC fr4 hfI hfC
  repeat still_step
  refine wpStill_nil ?_
  go_wp2_with fail
  go_ret2
  have M := MM.out
  have kd := HW.out.2
  have b0 := kd.blk M.blk (by simp)
  have b1 := heap_setCell_same _ _ 4 _ _ (.slice (some ⟨gR, 0, none⟩) rr.length cR) b0
  have b2 := blk_off b1 n1' i (.bool true)
  have b3 := blk_off b2 n2' i (.int .u64 (IntKind.u64.wrap (t + 1)))
  have rI := (kd.row M.I (by simp))
  have rC := (kd.row M.C (by simp))
  have rR := (kd.row M.R (by simp))
  have sR : ∀ (w : World) (j : Nat) (u : Value) (x : Nat), x ≠ gR → w.ownsRow B 3 1 (.slice (some ⟨gR, 0, none⟩) rr.length cR) rr.length (ints rr.reverse) → (w.setCell ⟨x, j, none⟩ u).ownsRow B 3 1 (.slice (some ⟨gR, 0, none⟩) rr.length cR) rr.length (ints rr.reverse) := fun w j u x hx h => row_side h (fun k hk => by simp [Value.ownBlock] at hk; subst hk; exact Ne.symm hx) j u
  have sI : ∀ (w : World) (j : Nat) (u : Value) (x : Nat) (l : List Value), x ≠ gI → w.ownsRow B 4 1 (.slice (some ⟨gI, 0, none⟩) A.cap cI) A.cap l → (w.setCell ⟨x, j, none⟩ u).ownsRow B 4 1 (.slice (some ⟨gI, 0, none⟩) A.cap cI) A.cap l := fun w j u x l hx h => row_side h (fun k hk => by simp [Value.ownBlock] at hk; subst hk; exact Ne.symm hx) j u
  have sC : ∀ (w : World) (j : Nat) (u : Value) (x : Nat) (l : List Value), x ≠ gC → w.ownsRow B 48 1 (.slice (some ⟨gC, 0, none⟩) A.cap cC) A.cap l → (w.setCell ⟨x, j, none⟩ u).ownsRow B 48 1 (.slice (some ⟨gC, 0, none⟩) A.cap cC) A.cap l := fun w j u x l hx h => row_side h (fun k hk => by simp [Value.ownBlock] at hk; subst hk; exact Ne.symm hx) j u
  have r0 : wd.ownsRow B 3 1 (.slice (some ⟨gR, 0, none⟩) rr.length cR) rr.length (ints rr.reverse) := by
    have := row_take (m := rr.length) rR (by rw [HF.out]; simp) (by simp)
    rw [HF.out] at this
    simpa [ints] using this
  have fI := sI _ i (.int .u64 (IntKind.u64.wrap (t + 1))) gC _ n4' (row_put (sI _ 4 (.slice (some ⟨gR, 0, none⟩) rr.length cR) r _ n1 rI) i (.bool true))
  have fC := row_put (sC _ i (.bool true) gI _ n4 (sC _ 4 (.slice (some ⟨gR, 0, none⟩) rr.length cR) r _ n2 rC)) i (.int .u64 (IntKind.u64.wrap (t + 1)))
  have fR := sR _ i (.int .u64 (IntKind.u64.wrap (t + 1))) gC n6 (sR _ i (.bool true) gI n5 (sR _ 4 (.slice (some ⟨gR, 0, none⟩) rr.length cR) r n3 r0))
  rw [OA.out, CP.out] at fI
  rw [CA.out, CP.out] at fC
  have ho := HO.out
  refine ⟨rfl, own, ⟨.slice (some ⟨gI, 0, none⟩) A.cap cI, .slice (some ⟨gC, 0, none⟩) A.cap cC, .slice (some ⟨gR, 0, none⟩) rr.length cR, ⟨?_, by rw [CP.out]; exact fI, by rw [CP.out]; exact fC, ?_, M.ge, by simp [Value.ownBlock]; exact ⟨⟨n1, n2, n3⟩, ⟨n4, n5⟩, n6⟩⟩, by rw [ho]; simp [Value.ownBlock]⟩, fun k hk => .inl hk, ?_⟩
  · rw [b3, CP.out]
    simp
  · rw [AL.out]
    exact fR
  · have mr : r ∈ own := by rw [ho]; simp
    have mI : gI ∈ own := by rw [ho]; simp [Value.ownBlock]
    have mC : gC ∈ own := by rw [ho]; simp [Value.ownBlock]
    exact (((((K1.out.trans kd (by simp)).mono (by simp) : Kp own w wd).trans (Kp.set (o := own) _ _ _ mr) (fun x hx => .inl hx)).trans (Kp.set (o := own) _ _ _ mI) (fun x hx => .inl hx)).trans (Kp.set (o := own) _ _ _ mC) (fun x hx => .inl hx))
end Go.Proofs.Ytflblojmjdlhiaa
