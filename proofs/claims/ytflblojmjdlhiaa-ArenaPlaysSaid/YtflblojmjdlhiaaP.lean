/- What is played on an arena: allocations and slots that are freed, beside a list of what is out. -/
import Derived.Test.YtflblojmjdlhiaaN
import Derived.BigQuiet
set_option linter.unusedVariables false
set_option linter.unusedSimpArgs false
namespace Go.Proofs.Ytflblojmjdlhiaa
open Go.RowKit

def isum : List Int → Int
  | [] => 0
  | x :: r => x + isum r
theorem isum_append (l m : List Int) : isum (l ++ m) = isum l + isum m := by
  induction l with
  | nil => simp [isum]
  | cons x r ih => simp only [List.cons_append, isum, ih]; omega
theorem isum_set : ∀ (l : List Int) (i : Nat) (v : Int), i < l.length → isum (l.set i v) = isum l - l.getD i 0 + v := by
  intro l
  induction l with
  | nil => intro i v h; simp at h
  | cons x r ih =>
    intro i v h
    rcases i with _ | i
    · simp [isum, List.getD]; omega
    · simp only [List.set_cons_succ, isum]
      rw [ih i v (by simpa using h)]
      simp [List.getD]; omega
theorem isum_ge : ∀ (l : List Int), (∀ t ∈ l, 0 ≤ t) → 0 ≤ isum l ∧ ∀ i, i < l.length → l.getD i 0 ≤ isum l := by
  intro l
  induction l with
  | nil => intro _; exact ⟨by simp [isum], fun i h => by simp at h⟩
  | cons x r ih =>
    intro h
    have h0 := h x (by simp)
    obtain ⟨h1, h2⟩ := ih fun t ht => h t (by simp [ht])
    refine ⟨by simp only [isum]; omega, fun i hi => ?_⟩
    rcases i with _ | i
    · simp [isum, List.getD]; omega
    · have := h2 i (by simpa using hi)
      simp only [isum]
      simp [List.getD] at this ⊢
      omega
theorem Ar.used_false_of {A : Ar} {i : Nat} (h : i ∈ A.fr ∨ A.T.length ≤ i) : A.used i = false := by
  rw [Bool.eq_false_iff]
  intro e
  obtain ⟨h1, h2⟩ := (used_iff A i).1 e
  rcases h with h | h
  · exact h2 h
  · omega
theorem Ar.fr_le {A : Ar} (ok : A.ok) : A.fr.length ≤ A.T.length := nodup_le _ _ ok.nd ok.lt
/-- what Alloc changes, where it returns a slot -/
theorem alloc_facts {A : Ar} (ok : A.ok) {i : Nat} (h : A.next = some i) : A.alloc' = A.alloc ∧ A.used i = false ∧ i < A.cap ∧ (∀ j : Nat, A.alloc.used j = if j = i then true else A.used j) ∧ A.alloc.len = A.len + 1 ∧ A.alloc.cap = A.cap ∧ (isum A.T < 18446744073709551615 → isum A.alloc.T = isum A.T + 1) := by
  have e0 : A.alloc' = A.alloc := by unfold Ar.alloc'; rw [h]
  have hle := A.fr_le ok
  rcases hf : A.fr with _ | ⟨j, r⟩
  · have hn : A.T.length < A.cap ∧ A.T.length = i := by
      unfold Ar.next at h
      rw [hf] at h
      simp at h
      exact h
    obtain ⟨hl, rfl⟩ := hn
    have e1 : A.alloc = ⟨A.cap, A.T ++ [1], []⟩ := by unfold Ar.alloc; rw [hf]
    refine ⟨e0, Ar.used_false_of (.inr (Nat.le_refl _)), hl, fun j => ?_, ?_, by rw [e1], fun _ => by rw [e1]; show isum (A.T ++ [1]) = _; rw [isum_append]; simp [isum]⟩
    · rw [e1]
      by_cases hj : j = A.T.length
      · rw [if_pos hj, used_iff]
        simp; omega
      · rw [if_neg hj, Bool.eq_iff_iff, used_iff, used_iff, hf]
        simp; omega
    · rw [e1]
      unfold Ar.len
      rw [hf]
      simp
  · have hi : j = i := by
      unfold Ar.next at h
      rw [hf] at h
      simpa using h
    subst hi
    have e1 : A.alloc = ⟨A.cap, A.T.set j (IntKind.u64.wrap (A.T.getD j 0 + 1)), r⟩ := by unfold Ar.alloc; rw [hf]
    have hj := ok.lt j (by rw [hf]; simp)
    have nd := ok.nd
    rw [hf] at nd hle
    have jr := (List.nodup_cons.1 nd).1
    refine ⟨e0, Ar.used_false_of (.inl (by rw [hf]; simp)), by have := ok.le; omega, fun k => ?_, ?_, by rw [e1], fun hs => ?_⟩
    · rw [e1]
      by_cases hk : k = j
      · subst hk
        rw [if_pos rfl, used_iff]
        exact ⟨by simpa using hj, jr⟩
      · rw [if_neg hk, Bool.eq_iff_iff, used_iff, used_iff, hf]
        simp [hk]
    · rw [e1]
      unfold Ar.len
      rw [hf]
      simp at hle ⊢
      omega
    · rw [e1]
      show isum (A.T.set j _) = _
      obtain ⟨g1, g2⟩ := isum_ge A.T fun t ht => (ok.u t ht).1
      have g3 := g2 j hj
      have g4 : 0 ≤ A.T.getD j 0 := by
        have : A.T.getD j 0 = A.T[j] := by simp [List.getD, hj]
        rw [this]
        exact (ok.u _ (List.getElem_mem hj)).1
      rw [isum_set _ _ _ hj, IntKind.wrap_u64]
      omega
theorem free_facts {A : Ar} (ok : A.ok) {i : Nat} (h : A.used i = true) : (∀ j : Nat, (A.free i).used j = if j = i then false else A.used j) ∧ A.len = (A.free i).len + 1 ∧ i < A.cap := by
  obtain ⟨h1, h2⟩ := (used_iff A i).1 h
  have hle : (i :: A.fr).length ≤ A.T.length := nodup_le _ _ (List.nodup_cons.2 ⟨h2, ok.nd⟩) fun x hx => by
    simp at hx
    rcases hx with rfl | hx
    · exact h1
    · exact ok.lt x hx
  refine ⟨fun j => ?_, ?_, by have := ok.le; omega⟩
  · by_cases hj : j = i
    · subst hj
      rw [if_pos rfl]
      exact Ar.used_false_of (.inl (by simp [Ar.free]))
    · rw [if_neg hj, Bool.eq_iff_iff, used_iff, used_iff]
      simp [Ar.free, hj]
  · unfold Ar.len Ar.free
    simp at hle ⊢
    omega
theorem freeE_facts {A : Ar} {x : Nat} (hx : x < A.cap) : A.freeE x = (if A.used x then 0 else 5) ∧ A.free' x = (if A.used x then A.free x else A) := by
  constructor
  · unfold Ar.freeE
    rw [if_neg (by omega)]
  · unfold Ar.free'
    rfl

def outs (A : Ar) (n : Nat) : List Value := (List.range n).map fun i : Nat => Value.bool (A.used i)
theorem outs_len (A : Ar) (n : Nat) : (outs A n).length = n := by simp [outs]
theorem outs_get (A : Ar) {n i : Nat} (hi : i < n) : (outs A n)[i]? = some (.bool (A.used i)) := by simp [outs, hi]
theorem outs_set {A A' : Ar} {n i : Nat} {v : Bool} (hi : i < n) (h : ∀ j : Nat, A'.used j = if j = i then v else A.used j) : (outs A n).set i (.bool v) = outs A' n := by
  apply List.ext_getElem
  · simp [outs]
  · intro j h1 h2
    rw [List.getElem_set]
    simp [outs]
    rw [h j]
    by_cases e : i = j
    · subst e; simp
    · rw [if_neg e, if_neg (Ne.symm e)]
structure PlayI (w wr : World) (b n g : Nat) (A : Ar) (al fr : Nat) : Prop where
  has : Has w.heap.size w wr b A [g]
  cap : A.cap = n
  row : wr.ownsRow w.heap.size 4 1 (.slice (some ⟨g, 0, none⟩) n n) n (outs A n)
  cnt : A.len + fr = al
  sum : isum A.T = (al : Int)
theorem PlayI.g {w wr : World} {b n g : Nat} {A : Ar} {al fr : Nat} (h : PlayI w wr b n g A al fr) : ∀ x ∈ [g], x < wr.heap.size := by
  intro x hx
  simp at hx
  subst hx
  exact (h.row.lt x rfl).2
/-- one of the law's own flags is written -/
theorem PlayI.put {w wr w2 : World} {b n g : Nat} {A A' : Ar} {al fr al' fr' i : Nat} {v : Bool} (h : PlayI w wr b n g A al fr) (h2 : Has w.heap.size w w2 b A' [g]) (s : Same [g] wr w2) (hi : i < n) (hu : ∀ j : Nat, A'.used j = if j = i then v else A.used j) (hc : A'.cap = A.cap) (c : A'.len + fr' = al') (sm : isum A'.T = (al' : Int)) :
    PlayI w (w2.setCell ⟨g, i, none⟩ (.bool v)) b n g A' al' fr' := by
  have r := s.row h.row (fun k hk => by simp [Value.ownBlock] at hk; simp [hk])
  refine ⟨h2.other (Kp.set (o := [g]) _ _ _ (by simp)) (fun x hx => hx) (fun x hx => by simp at hx; subst hx; exact (r.lt _ rfl).1), hc.trans h.cap, ?_, c, sm⟩
  rw [← outs_set hi hu]
  exact (r.stored i _).1
theorem PlayI.cell {w wr w2 : World} {b n g : Nat} {A : Ar} {al fr i : Nat} (h : PlayI w wr b n g A al fr) (s : Same [g] wr w2) (hi : i < n) : w2.cell? ⟨g, i, none⟩ = some (.bool (A.used i)) ∧ w2.frozen? ⟨g, i, none⟩ = false := by
  have r := s.row h.row (fun k hk => by simp [Value.ownBlock] at hk; simp [hk])
  exact ⟨by rw [r.cellAt i (by omega), outs_get A hi], r.frozenAt i⟩
theorem results_tmp4 {fn : Func} {t u v x : Tmp} (h : fn.results = #[.tmp t, .tmp u, .tmp v, .tmp x]) (tmps : Array Value) (P : Program) (w : World) :
    (results fn tmps).run P w = .ok (.tuple #[tmps.getD t undef, tmps.getD u undef, tmps.getD v undef, tmps.getD x undef]) w := by
  simp [results, h]
theorem info4 : (Try.prog.info? 4).map (fun i => (i.zero, i.size, i.bytes)) = some (some (.bool false), 1, 1) := by kernel_rfl
end Go.Proofs.Ytflblojmjdlhiaa
