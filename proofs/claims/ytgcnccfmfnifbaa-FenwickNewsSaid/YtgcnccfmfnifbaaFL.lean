/- A range over a function that writes a box of its own between two rounds, with a body that always goes on: a law of ours. -/
import Derived.Test.YtgcnccfmfnifbaaFB
set_option linter.unusedVariables false
set_option linter.unusedSimpArgs false
namespace Go.Proofs.Ytgcnccfmfnifbaa
open Go.RowKit Go.Shelf

/-- one box is as it was -/
def SameAt (bk : Nat) (W W' : World) : Prop := W'.cell? ⟨bk, 0, none⟩ = W.cell? ⟨bk, 0, none⟩ ∧ W'.frozen? ⟨bk, 0, none⟩ = W.frozen? ⟨bk, 0, none⟩
theorem SameAt.refl (bk : Nat) (W : World) : SameAt bk W W := ⟨rfl, rfl⟩
theorem SameAt.trans {bk : Nat} {A B C : World} (h : SameAt bk A B) (k : SameAt bk B C) : SameAt bk A C := ⟨k.1.trans h.1, k.2.trans h.2⟩
theorem SameAt.of_block {bk : Nat} {W W' : World} (h : W'.heap[bk]? = W.heap[bk]?) : SameAt bk W W' := ⟨World.cell?_of_block h, by simp [World.frozen?, h]⟩
theorem SameAt.put {bk : Nat} (W : World) {l : Nat} (o : Obj) (h : bk ≠ l) : SameAt bk W (W.putObj l o) := .of_block (World.putObj_heap_other h)
theorem setCell_far (W : World) (bk l : Nat) (v : Value) (h : bk ≠ l) : (W.setCell ⟨bk, 0, none⟩ v).heap[l]? = W.heap[l]? := Below.heap_setCell _ _ _ _ (Ne.symm h)
theorem wpIn_rangeFunc_box {α : Type} {F : Fence} {n : Nat} {P : Program} {g : Operand} {ps : Array Tmp} {assign body : Code} {Q : Exit → Act → World → Prop} {a : Act} {w : World}
    (hro : F.round = none) (h1 : 1 ≤ n) {gf : Nat} {lb : Array Value} (hg : a.eval g = .func (.func gf) #[] lb) (hFg : F.fn gf) (eg : ∀ args w, (callFunc gf args).run P w = .ok (.enter gf args) w)
    {encs : α → Array Value} {bk : Nat} (hbk : bk < w.heap.size) {S : List α → Prop} {N : Nat}
    (hseq : ∀ (l : Nat) (J : List α → World → Prop) (W : World), (∀ pre W v, J pre W → J pre (W.setCell ⟨bk, 0, none⟩ v)) →
      (∀ pre x W1, J pre W1 → pre.length < N → YieldAt F (n - 1 - 1) P l (encs x) W1 fun e W' => (e = .returned (.bool true) ∧ J (pre ++ [x]) W' ∧ SameAt bk W1 W') ∨ (e = .returned (.bool false) ∧ False)) →
      SameAt bk w W → J [] W → CallsIn F (n - 1) P gf (#[.func (.yield l) #[] #[]] ++ lb) W fun e W' => (∃ v, e = .returned v) ∧ ((∃ xs, S xs ∧ J xs W') ∨ ∃ pre : List α, True ∧ False))
    (hps : ∀ x, (encs x).size = ps.size)
    (I : List α → World → Prop) (hIs : ∀ pre W v, I pre W → I pre (W.setCell ⟨bk, 0, none⟩ v)) (hI : OwnFrom w.heap.size I) (h0 : I [] w) (a₁ : α → Act)
    (hassign : ∀ (l : Nat) (x : α) (W : World) (K : Act → World → Prop), K (a₁ x) W →
      assign.wpIn (F.inRound l) (n - 1 - 1) P (Exit.then K (fun _ _ _ => False)) { tmps := (ps.zip (encs x)).foldl (fun t (p, v) => t.setIfInBounds p v) a.tmps, defers := [] } W)
    (hbody : ∀ (l : Nat) (pre : List α) (x : α) (W : World), I pre W → pre.length < N → body.wpIn (F.inRound l) (n - 1 - 1) P (ownPostK (SameAt bk) I (fun _ _ _ => False) (pre ++ [x]) W) (a₁ x) W)
    (hdone : ∀ (D : Nat) (xs : List α) (W : World), w.heap.size ≤ D → S xs → I xs W → W.heap[D]? = some (.deferred (some [])) → Q .normal { a with defers := { target := .collected D, args := #[] } :: a.defers } W) :
    (Code.rangeFunc g ps assign body).wpIn F n P Q a w := by
  refine wpIn_rangeFunc ?_
  intro fn hfn
  rw [hro]
  generalize hs : w.heap.size = s at hbk hI hdone
  let rec0 : LoopState → Option Code → Loop := fun st pe => { state := st, pending := pe, fn, tmps := a.tmps, params := ps, assign, body, defers := s }
  have hL : ((w.alloc (.deferred (some []))).alloc (.loop (rec0 .ready none))).heap[s + 1]? = some (.loop (rec0 .ready none)) := by
    have := World.alloc_heap_new (w.alloc (.deferred (some []))) (.loop (rec0 .ready none)); rwa [World.size_alloc, hs] at this
  have hK : ((w.alloc (.deferred (some []))).alloc (.loop (rec0 .ready none))).heap[s]? = some (.deferred (some [])) := by
    rw [Below.heap_alloc _ _ _ (by simp; omega), ← hs]; exact World.alloc_heap_new w _
  have hI1 : I [] ((w.alloc (.deferred (some []))).alloc (.loop (rec0 .ready none))) := hI.alloc _ (hI.alloc _ h0)
  have hB1 : SameAt bk w ((w.alloc (.deferred (some []))).alloc (.loop (rec0 .ready none))) :=
    .of_block (by rw [Below.heap_alloc _ _ _ (by simp; omega), Below.heap_alloc _ _ _ (by omega)])
  have henter : (Instr.enterLoop fn a.tmps ps assign body none).run P w = .ok (s + 1, [{ target := .collected s, args := #[] }]) ((w.alloc (.deferred (some []))).alloc (.loop (rec0 .ready none))) := by subst hs; exact run_enterLoop_outer _ _ _ _ _
  generalize (w.alloc (.deferred (some []))).alloc (.loop (rec0 .ready none)) = W1 at *
  refine ⟨s + 1, [{ target := .collected s, args := #[] }], W1, { target := .fn (.func gf) lb, args := #[.func (.yield (s + 1)) #[] #[]] }, W1, gf, #[.func (.yield (s + 1)) #[] #[]] ++ lb, W1, henter, ?_, ?_, ?_, fun _ => h1, ?_⟩
  · simp only [resolve, hg]
    simp [go_sem]
  · intro f' hf'; simp [Target.leads] at hf'; subst hf'; exact hFg
  · simp [invoke, go_sem, eg]
  · refine (hseq (s + 1) (fun pre W => I pre W ∧ W.heap[s + 1]? = some (.loop (rec0 .ready none)) ∧ W.heap[s]? = some (.deferred (some []))) _ ?_ ?_ hB1 ⟨hI1, hL, hK⟩).mono ?_
    · rintro pre W v ⟨hi, hl, hk⟩
      exact ⟨hIs _ _ _ hi, by rw [setCell_far _ _ _ _ (by omega)]; exact hl, by rw [setCell_far _ _ _ _ (by omega)]; exact hk⟩
    · rintro pre x W ⟨hi, hl, hk⟩ hlen
      have hlt : s + 1 < W.heap.size := (Array.getElem?_eq_some_iff.1 hl).1
      have hy := run_yield (P := P) (args := encs x) hl (hps x)
      refine ⟨fn, _, assign, body, hy, roundIn_of_wpIn hfn (hassign _ x W _ ⟨_, run_beginRound hl rfl, ?_⟩)⟩
      obtain ⟨Wb, hWb⟩ : ∃ Wb, Wb = W.putObj (s + 1) (.loop { rec0 .ready none with state := .busy }) := ⟨_, rfl⟩
      have b1 : Wb.heap[s + 1]? = some (.loop { rec0 .ready none with state := .busy }) := by rw [hWb]; exact World.putObj_heap_same hlt
      have b2 : Wb.heap[s]? = some (.deferred (some [])) := by rw [hWb]; exact (World.putObj_heap_other (by omega)).trans hk
      have b3 : I pre Wb := by rw [hWb]; exact hI.putObj _ hi (by omega) hl rfl
      have b4 : SameAt bk W Wb := by rw [hWb]; exact .put _ _ (by omega)
      rw [← hWb]
      refine wpIn_mono (hbody _ pre x _ b3 hlen) ?_
      rintro e a3 W3 hp
      cases e with
      | normal =>
        obtain ⟨hk3, hs3, hi3⟩ := hp
        have hl3 := hk3.same _ _ b1 rfl
        have hd3 := hk3.same _ _ b2 rfl
        have hr := run_endRound (P := P) none hl3
        exact ⟨_, _, hr, .inl ⟨rfl, ⟨hI.putObj _ hi3 (by omega) hl3 rfl, World.putObj_heap_same (Array.getElem?_eq_some_iff.1 hl3).1, (World.putObj_heap_other (by omega)).trans hd3⟩, (b4.trans hs3).trans (.put _ _ (by omega))⟩⟩
      | ret => exact hp.2.elim
      | exit id => exact hp.2.elim
      | goto t => exact hp.2.elim
      | panic ch => exact hp.elim
      | outgrown => exact hp.elim
    · rintro e W2 ⟨⟨v, rfl⟩, (⟨xs, hS, hi, hl, hk⟩ | ⟨pre, _, h⟩)⟩
      · exact ⟨none, _, run_endLoop (P := P) hl (by simp [rec0]), hdone _ xs _ (by omega) hS (hI.putObj _ hi (by omega) hl rfl) ((World.putObj_heap_other (by omega)).trans hk)⟩
      · exact h.elim
end Go.Proofs.Ytgcnccfmfnifbaa
