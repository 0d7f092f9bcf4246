/- Small counts, four histograms. -/
import Derived.Test.YtenoalfjobghnaaHO
set_option linter.unusedVariables false
set_option linter.unusedSimpArgs false
namespace Go.Proofs.Ytenoalfjobghnaa
open Go.RowKit

def cl (M t : Int) : Int := if M < t then M else t
theorem cl_le (M t : Int) : cl M t ≤ M := by unfold cl; split <;> omega
theorem cl_64 {M t : Int} (h : I64 t) (hm : 0 ≤ M ∧ M ≤ 9223372036854775807) : I64 (cl M t) := by unfold cl; unfold I64 at *; split <;> omega
theorem addF_small {V : Nat → Int} {m : Nat} {C : Nat → Int} {x t K : Int} (h : sumI C (m + 1) ≤ K) (ht : K + t ≤ 9223372036854775807) : addF V m C x t = fun i => C i + if 0 ≤ t ∧ bk V x m = i then t else 0 := by
  funext i
  unfold addF
  by_cases h0 : 0 ≤ t
  · have ok : okA C m t := ⟨h0, by omega⟩
    rw [if_pos ok]
    unfold updI
    by_cases e : i = bk V x m
    · rw [if_pos e, if_pos ⟨h0, e.symm⟩, e]
    · rw [if_neg e, if_neg (fun q => e q.2.symm)]; omega
  · have ok : ¬ okA C m t := fun q => h0 q.1
    rw [if_neg ok, if_neg (fun q => h0 q.1)]; omega
theorem addF_small_sum {V : Nat → Int} {m : Nat} {C : Nat → Int} {x t K M : Int} (h : sumI C (m + 1) ≤ K) (ht : t ≤ M) (hM : 0 ≤ M) : sumI (addF V m C x t) (m + 1) ≤ K + M := by
  rw [addF_sum]; split <;> omega
/-- what step k adds to bucket i, if counts are at most M -/
def ctr (V : Nat → Int) (m : Nat) (X T : Nat → Int) (M : Int) (i k : Nat) : Int := if 0 ≤ cl M (T k) ∧ bk V (X k) m = i then cl M (T k) else 0
theorem ctr_nn (V : Nat → Int) (m : Nat) (X T : Nat → Int) (M : Int) (i k : Nat) : 0 ≤ ctr V m X T M i k := by
  unfold ctr; split
  · rename_i h; exact h.1
  · exact Int.le_refl _
theorem sumI_congr {f g : Nat → Int} : ∀ {n : Nat}, (∀ i, i < n → f i = g i) → sumI f n = sumI g n := by
  intro n
  induction n with
  | zero => intro _; rfl
  | succ n ih => intro h; simp only [sumI]; rw [ih (fun i hi => h i (by omega)), h n (by omega)]
theorem sumI_front (f : Nat → Int) : ∀ n, sumI f (n + 1) = f 0 + sumI (fun j => f (j + 1)) n := by
  intro n
  induction n with
  | zero => simp [sumI]
  | succ n ih => rw [show sumI f (n + 1 + 1) = sumI f (n + 1) + f (n + 1) from rfl, ih]; simp only [sumI]; omega
/-- the sum in the opposite order -/
theorem sumI_rev (f : Nat → Int) : ∀ n, sumI (fun j => f (n - 1 - j)) n = sumI f n := by
  intro n
  induction n with
  | zero => rfl
  | succ n ih =>
    rw [sumI_front]
    have e : sumI (fun j => f (n + 1 - 1 - (j + 1))) n = sumI (fun j => f (n - 1 - j)) n := sumI_congr fun i hi => by rw [show n + 1 - 1 - (i + 1) = n - 1 - i by omega]
    rw [e, ih]; simp [sumI]; omega
/-- the sum of those before c, and the sum of the others -/
def part1 (f : Nat → Int) (c k : Nat) : Int := sumI (fun j => if j < c then f j else 0) k
def part2 (f : Nat → Int) (c k : Nat) : Int := sumI (fun j => if j < c then 0 else f j) k
theorem part_sum (f : Nat → Int) (c k : Nat) : part1 f c k + part2 f c k = sumI f k := by
  unfold part1 part2
  rw [← sumI_add]
  exact sumI_congr fun i _ => by by_cases h : i < c <;> simp [h]
structure Id where
  b : Nat
  vB : Value
  vC : Value
def Id.own (a : Id) : List Nat := HM.own a.b a.vB a.vC
def HI (S : Nat) (w : World) (a : Id) (m : Nat) (V C : Nat → Int) : Prop := HG S w a.b a.vB a.vC m V C
def dis (a b : Id) : Prop := ∀ x ∈ a.own, x ∉ b.own
theorem dis_symm {a b : Id} (h : dis a b) : dis b a := fun x hx hy => h x hy hx
theorem HI.keep {S : Nat} {w w' : World} {a : Id} {m : Nat} {V C : Nat → Int} {o : Id} (h : HI S w a m V C) (k : Kp o.own w w') (d : dis a o) : HI S w' a m V C := HG.keep h k d
theorem HI.keep0 {S : Nat} {w w' : World} {a : Id} {m : Nat} {V C : Nat → Int} (h : HI S w a m V C) (k : Kp [] w w') : HI S w' a m V C := HG.keep h k (by simp)
theorem HI.base {S S' : Nat} {w : World} {a : Id} {m : Nat} {V C : Nat → Int} (h : HI S w a m V C) (hs : S' ≤ S) : HI S' w a m V C :=
  ⟨⟨h.M.blk, row_mono h.M.rB hs, row_mono h.M.rC hs, Nat.le_trans hs h.M.ge, h.M.nB, h.M.nC, h.M.ne⟩, h.hm, h.inc, h.nn, h.top⟩
theorem HI.lt {S : Nat} {w : World} {a : Id} {m : Nat} {V C : Nat → Int} (h : HI S w a m V C) : ∀ x ∈ a.own, S ≤ x ∧ x < w.heap.size := h.M.lt
theorem dis_new {S S' : Nat} {w w' : World} {a b : Id} {m m' : Nat} {V C V' C' : Nat → Int} (h : HI S w a m V C) (k : HI S' w' b m' V' C') (hs : w.heap.size ≤ S') : dis a b := fun x hx hy => by have := (h.lt x hx).2; have := (k.lt x hy).1; omega
/-- Add, of a small count -/
theorem add_s {S : Nat} {w : World} {a : Id} {m : Nat} {V C : Nat → Int} (G : HI S w a m V C) (x t K M : Int) (it : I64 t) (h : sumI C (m + 1) ≤ K) (ht : t ≤ M) (hM : 0 ≤ M) (hK : K + M ≤ 9223372036854775807) :
    Calls Try.prog 18 #[.pointer (some ⟨a.b, 0, none⟩), .int .i64 x, .int .i64 t] w fun e w' => ∃ f, e = .returned (.int .i64 f) ∧ HI S w' a m V (fun i => C i + if 0 ≤ t ∧ bk V x m = i then t else 0) ∧ sumI (fun i => C i + if 0 ≤ t ∧ bk V x m = i then t else 0) (m + 1) ≤ K + M ∧ Kp a.own w w' := by
  refine (hadd G x t it).mono ?_
  rintro e w' ⟨rfl, G', k⟩
  have q := addF_small (V := V) (x := x) (t := t) h (by omega)
  have s := addF_small_sum (V := V) (x := x) h ht hM
  rw [q] at G' s
  exact ⟨_, rfl, G', s, k⟩
theorem copy_g {S : Nat} {w : World} {a : Id} {m : Nat} {V C : Nat → Int} (G : HI S w a m V C) :
    Calls Try.prog 32 #[.pointer (some ⟨a.b, 0, none⟩)] w fun e w' => ∃ d : Id, e = .returned (.pointer (some ⟨d.b, 0, none⟩)) ∧ HI w.heap.size w' d m V C ∧ Kp [] w w' := by
  refine (copy_t G.M G.hm).mono ?_
  rintro e w' ⟨d, wB, wC, rfl, M, k⟩
  exact ⟨⟨d, wB, wC⟩, rfl, ⟨M, G.hm, G.inc, G.nn, G.top⟩, k⟩
theorem new_i {w : World} {p : Option Addr} {n c : Nat} {V : Nat → Int} (h : Rd1 w p n V) (hn : n ≤ 1024) (inc : Inc V n) :
    Calls Try.prog 15 #[.slice p n c] w fun e w' => ∃ a : Id, e = .returned (.tuple #[.pointer (some ⟨a.b, 0, none⟩), .int .i64 0]) ∧ HI w.heap.size w' a n V (fun _ => 0) ∧ Kp [] w w' := by
  refine (new_g h hn inc).mono ?_
  rintro e w' ⟨b, vB, vC, rfl, G, k⟩
  exact ⟨⟨b, vB, vC⟩, rfl, G, k⟩
theorem sumI_zero : ∀ k, sumI (fun _ => 0) k = 0 := fun k => by induction k with
  | zero => rfl
  | succ k ih => simp only [sumI, ih]; rfl
end Go.Proofs.Ytenoalfjobghnaa
