/- Histograms that are good; Add, whatever it is asked; steps. -/
import Derived.Test.YtenoalfjobghnaaHN
set_option linter.unusedVariables false
set_option linter.unusedSimpArgs false
namespace Go.Proofs.Ytenoalfjobghnaa
open Go.RowKit

structure HG (B : Nat) (w : World) (b : Nat) (vB vC : Value) (m : Nat) (V C : Nat → Int) : Prop where
  M : HM B w b vB vC m V C
  hm : m ≤ 1024
  inc : Inc V m
  nn : ∀ i, i < m + 1 → 0 ≤ C i
  top : sumI C (m + 1) ≤ 9223372036854775807
theorem HG.keep {B : Nat} {w w' : World} {b : Nat} {vB vC : Value} {m : Nat} {V C : Nat → Int} {o : List Nat} (G : HG B w b vB vC m V C) (k : Kp o w w') (d : ∀ x ∈ HM.own b vB vC, x ∉ o) : HG B w' b vB vC m V C := ⟨G.M.keep k d, G.hm, G.inc, G.nn, G.top⟩
def okA (C : Nat → Int) (m : Nat) (t : Int) : Prop := 0 ≤ t ∧ sumI C (m + 1) + t ≤ 9223372036854775807
instance (C : Nat → Int) (m : Nat) (t : Int) : Decidable (okA C m t) := by unfold okA; infer_instance
def addE (C : Nat → Int) (m : Nat) (t : Int) : Int := if t < 0 then 2 else if 9223372036854775807 < sumI C (m + 1) + t then 7 else 0
def addF (V : Nat → Int) (m : Nat) (C : Nat → Int) (x t : Int) : Nat → Int := if okA C m t then updI C (bk V x m) (C (bk V x m) + t) else C
theorem addE_ok {C : Nat → Int} {m : Nat} {t : Int} : addE C m t = 0 ↔ okA C m t := by
  unfold addE okA
  by_cases h : t < 0
  · rw [if_pos h]; simp; omega
  · rw [if_neg h]
    by_cases h2 : 9223372036854775807 < sumI C (m + 1) + t
    · rw [if_pos h2]; simp; omega
    · rw [if_neg h2]; simp; omega
theorem sumI_upd (C : Nat → Int) (r : Nat) (t : Int) : ∀ n, sumI (updI C r (C r + t)) n = sumI C n + if r < n then t else 0 := by
  intro n
  induction n with
  | zero => simp [sumI]
  | succ n ih =>
    simp only [sumI, ih]
    by_cases e : n = r
    · subst e; simp [updI]; omega
    · simp only [updI, if_neg e]
      by_cases h : r < n
      · rw [if_pos h, if_pos (by omega)]; omega
      · rw [if_neg h, if_neg (by omega)]; omega
theorem addF_sum (V : Nat → Int) (m : Nat) (C : Nat → Int) (x t : Int) : sumI (addF V m C x t) (m + 1) = sumI C (m + 1) + if okA C m t then t else 0 := by
  unfold addF
  by_cases h : okA C m t
  · rw [if_pos h, if_pos h, sumI_upd, if_pos (by have := bk_le V x m; omega)]
  · rw [if_neg h, if_neg h]; omega
theorem addF_nn {V : Nat → Int} {m : Nat} {C : Nat → Int} {x t : Int} (nn : ∀ i, i < m + 1 → 0 ≤ C i) : ∀ i, i < m + 1 → 0 ≤ addF V m C x t i := by
  intro i hi
  unfold addF
  by_cases h : okA C m t
  · rw [if_pos h]; unfold updI
    by_cases e : i = bk V x m
    · rw [if_pos e]; have := nn _ (e ▸ hi); have := h.1; omega
    · rw [if_neg e]; exact nn i hi
  · rw [if_neg h]; exact nn i hi
theorem addF_top {V : Nat → Int} {m : Nat} {C : Nat → Int} {x t : Int} (top : sumI C (m + 1) ≤ 9223372036854775807) : sumI (addF V m C x t) (m + 1) ≤ 9223372036854775807 := by
  rw [addF_sum]
  by_cases h : okA C m t
  · rw [if_pos h]; exact h.2
  · rw [if_neg h]; omega
theorem hadd {B : Nat} {w : World} {b : Nat} {vB vC : Value} {m : Nat} {V C : Nat → Int} (G : HG B w b vB vC m V C) (x t : Int) (it : I64 t) :
    Calls Try.prog 18 #[.pointer (some ⟨b, 0, none⟩), .int .i64 x, .int .i64 t] w fun e w' => e = .returned (.int .i64 (addE C m t)) ∧ HG B w' b vB vC m V (addF V m C x t) ∧ Kp (HM.own b vB vC) w w' := by
  by_cases h1 : t < 0
  · refine (add_neg G.M G.hm x t h1).mono ?_
    rintro e w' ⟨rfl, rfl⟩
    have no : ¬ okA C m t := fun h => by have := h.1; omega
    exact ⟨by unfold addE; rw [if_pos h1], by unfold addF; rw [if_neg no]; exact G, Kp.refl _ _⟩
  · by_cases h2 : 9223372036854775807 < sumI C (m + 1) + t
    · refine (add_top G.M G.hm G.nn G.top x t (by omega) it h2).mono ?_
      rintro e w' ⟨rfl, rfl⟩
      have no : ¬ okA C m t := fun h => by have := h.2; omega
      exact ⟨by unfold addE; rw [if_neg h1, if_pos h2], by unfold addF; rw [if_neg no]; exact G, Kp.refl _ _⟩
    · refine (add_t G.M G.hm G.inc G.nn x t (by omega) it (by omega)).mono ?_
      rintro e w' ⟨rfl, M, k⟩
      have yes : okA C m t := ⟨by omega, by omega⟩
      have nn' := addF_nn (V := V) (x := x) (t := t) G.nn
      have top' := addF_top (V := V) (x := x) (t := t) G.top
      have e : addF V m C x t = updI C (bk V x m) (C (bk V x m) + t) := by unfold addF; rw [if_pos yes]
      exact ⟨by unfold addE; rw [if_neg h1, if_neg h2], ⟨by rw [e]; exact M, G.hm, G.inc, nn', top'⟩, k⟩
/-- the counts after k steps -/
def addsF (V : Nat → Int) (m : Nat) (C : Nat → Int) (X T : Nat → Int) : Nat → Nat → Int
  | 0 => C
  | k + 1 => addF V m (addsF V m C X T k) (X k) (T k)
/-- n steps at p -/
def StepsAt (w : World) (p : Option Addr) (n : Nat) (X T : Nat → Int) : Prop := n = 0 ∨ ∃ b off, p = some ⟨b, off, none⟩ ∧ b < w.heap.size ∧ ∀ i, i < n → w.cell? ⟨b, off + i * 2, none⟩ = some (.int .i64 (X i)) ∧ w.cell? ⟨b, off + i * 2 + 1, none⟩ = some (.int .i64 (T i)) ∧ I64 (X i) ∧ I64 (T i)
theorem steps_of {w : World} {s : Option Addr} {n : Nat} {V : Nat → Nat → Int} (h : RowsI w s [.i64, .i64] n V) : StepsAt w s n (fun i => V i 0) (fun i => V i 1) := by
  rcases h with h | ⟨b, off, rfl, hb, hc⟩
  · exact .inl h
  · refine .inr ⟨b, off, rfl, hb, fun i hi => ?_⟩
    have h0 := hc i hi 0 .i64 rfl
    have h1 := hc i hi 1 .i64 rfl
    simp at h0 h1
    have g0 := bounds_i64 h0.2
    have g1 := bounds_i64 h1.2
    exact ⟨h0.1, h1.1, g0, g1⟩
theorem StepsAt.below {w w' : World} {p : Option Addr} {n : Nat} {X T : Nat → Int} (h : StepsAt w p n X T) (k : Kp [] w w') : StepsAt w' p n X T := by
  rcases h with h | ⟨b, off, rfl, hb, hc⟩
  · exact .inl h
  · refine .inr ⟨b, off, rfl, Nat.lt_of_lt_of_le hb k.size, fun i hi => ?_⟩
    have hbl := k.block b hb (by simp)
    have q := hc i hi
    exact ⟨by rw [World.cell?_of_block (w := w) hbl]; exact q.1, by rw [World.cell?_of_block (w := w) hbl]; exact q.2.1, q.2.2⟩
theorem Kp.at {w w' : World} (k : Kp [] w w') {b : Nat} (hb : b < w.heap.size) (o : Nat) : w'.cell? ⟨b, o, none⟩ = w.cell? ⟨b, o, none⟩ := World.cell?_of_block (w := w) (k.block b hb (by simp))
/-- an Add keeps what is older than the histogram -/
theorem Kp.outer {w w1 w2 : World} {o : List Nat} (h : Kp [] w w1) (k : Kp o w1 w2) (ho : ∀ z ∈ o, w.heap.size ≤ z) : Kp [] w w2 := h.trans k (fun z hz => .inr (ho z hz))
theorem rd_of {w : World} {s : Option Addr} {n : Nat} {V : Nat → Nat → Int} (h : RowsI w s [.i64] n V) : Rd1 w s n (fun i => V i 0) := by
  by_cases hn : n = 0
  · exact .inl hn
  · obtain ⟨b, off, rfl, hb, _⟩ := rowsI_one h (show 0 < n by omega)
    refine .inr ⟨b, off, rfl, hb, fun i hi => ?_⟩
    obtain ⟨b', off', he, _, hc⟩ := rowsI_one h hi
    injection he with he; injection he with e1 e2; subst e1; subst e2
    exact hc.1
/-- New, as a good histogram -/
theorem new_g {w : World} {p : Option Addr} {n c : Nat} {V : Nat → Int} (h : Rd1 w p n V) (hn : n ≤ 1024) (inc : Inc V n) :
    Calls Try.prog 15 #[.slice p n c] w fun e w' => ∃ b vB vC, e = .returned (.tuple #[.pointer (some ⟨b, 0, none⟩), .int .i64 0]) ∧ HG w.heap.size w' b vB vC n V (fun _ => 0) ∧ Kp [] w w' := by
  refine (new_t h hn inc).mono ?_
  rintro e w' ⟨b, vB, vC, rfl, M, k⟩
  refine ⟨b, vB, vC, rfl, ⟨M, hn, inc, fun _ _ => Int.le_refl _, ?_⟩, k⟩
  have : ∀ k, sumI (fun _ => 0) k = 0 := fun k => by induction k with
    | zero => rfl
    | succ k ih => simp only [sumI, ih]; rfl
  rw [this]; decide
/-- New, refused -/
theorem new_e {w : World} {p : Option Addr} {n c : Nat} {V : Nat → Int} (h : Rd1 w p n V) (no : ¬ (n ≤ 1024 ∧ Inc V n)) :
    Calls Try.prog 15 #[.slice p n c] w fun e w' => e = .returned (.tuple #[.pointer none, .int .i64 2]) ∧ Kp [] w w' := by
  by_cases hn : n ≤ 1024
  · exact new_down h hn (fun i => no ⟨hn, i⟩)
  · refine (new_long (by omega)).mono ?_
    rintro e w' ⟨rfl, rfl⟩
    exact ⟨rfl, Kp.refl _ _⟩
end Go.Proofs.Ytenoalfjobghnaa
